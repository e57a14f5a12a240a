/- The document's layer 8: U32, Put, Next. -/
import Derived.Test.YtbpaongnehgodaaDoorFrameNext
namespace Go.Proofs.YtbpaongnehgodaaDoor
open Go.ChangeShapes Go.WideShapes Go.ChangeAt Go.RowKit
theorem conv4 (n : Nat) (hn : n < 4294967296) (w : World) :
    (convert 54 9 (.slice (some ⟨w.heap.size, 0, none⟩) 4 4)).run Tryd.prog (w.alloc (.cells #[.int .u8 ((n : Int) / 16777216), .int .u8 ((n : Int) / 65536 % 256), .int .u8 ((n : Int) / 256 % 256), .int .u8 ((n : Int) % 256)] 5)) = .ok (.string ⟨(be4 n).toArray⟩) (w.alloc (.cells #[.int .u8 ((n : Int) / 16777216), .int .u8 ((n : Int) / 65536 % 256), .int .u8 ((n : Int) / 256 % 256), .int .u8 ((n : Int) % 256)] 5)) := by
  have h := run_convert_bytes_back (P := Tryd.prog) (w.alloc (.cells #[.int .u8 ((n : Int) / 16777216), .int .u8 ((n : Int) / 65536 % 256), .int .u8 ((n : Int) / 256 % 256), .int .u8 ((n : Int) % 256)] 5)) 54 9 5 ⟨w.heap.size, 0, none⟩ 4 (be4 n) Tryd.underlying54 Tryd.underlying5 Tryd.underlying9 (fun j hj => by
    rw [add_plain, World.cell?_alloc_new]
    have e : ∀ k : Nat, (UInt8.ofNat k).toNat = k % 256 := fun k => by simp
    match j, hj with
    | 0, _ => simp [be4]; omega
    | 1, _ => simp [be4]
    | 2, _ => simp [be4]
    | 3, _ => simp [be4])
  exact h
theorem u32_any (n : Nat) (hn : n < 4294967296) (w : World) :
    Calls Tryd.prog 30 #[.int .u32 (n : Nat)] w (Ret (txt (be4 n)) w) := by
  have hcv := conv4 n hn w
  have h1 : (n : Int) ≤ 4294967295 := by omega
  clear hn
  unfold txt
  go_enter Tryd.func30, Tryd.ntmps30
  go_wp2
  go_ret
  exact ⟨rfl, by go_grown⟩
set_option maxHeartbeats 1000000 in
theorem refput_any (l : List UInt8) (h : l.length ≤ 1024) (w : World) :
    Calls Tryd.prog 14 #[.string ⟨l.toArray⟩] w (Ret (txt (frameL l)) w) := by
  have hsz : ByteArray.size ⟨l.toArray⟩ = l.length := rfl
  have H1 := Lib.hid (fun W => u32_any l.length (by omega) W)
  have H2 := Lib.hid (fun W => u32_any (sumN 0 l) (sumN_lt 0 l) W)
  have HON := Lib.hid (fun W => refon_any 0 (by decide) ⟨l.toArray⟩ (by rw [hsz]; omega) W)
  have el : (⟨l.toArray⟩ : ByteArray).data.toList = l := rfl
  rw [el] at HON
  have hadd1 : ∀ W, (Op.stringOp .add ⟨(be4 l.length).toArray⟩ ⟨(be4 (sumN 0 l)).toArray⟩).run Tryd.prog W = .ok (.string ⟨(be4 l.length ++ be4 (sumN 0 l)).toArray⟩) W := fun W => run_string_add_lists (P := Tryd.prog) W _ _ (by rw [be4_length]; decide) (by rw [be4_length]; decide)
  have hadd2 : ∀ W, (Op.stringOp .add ⟨(be4 l.length ++ be4 (sumN 0 l)).toArray⟩ ⟨l.toArray⟩).run Tryd.prog W = .ok (.string ⟨(frameL l).toArray⟩) W := fun W => run_string_add_lists (P := Tryd.prog) W _ _ (by rw [List.length_append, be4_length, be4_length]; decide) (by omega)
  have e32 : IntKind.u32.wrap (l.length : Int) = (l.length : Int) := by simp only [IntKind.wrap, IntKind.bits, IntKind.signed]; simp; omega
  have h1 : (l.length : Int) ≤ 1024 := by omega
  clear h el
  unfold txt at *
  generalize be4 (sumN 0 l) = y at *
  generalize be4 l.length = x at *
  generalize sumN 0 l = sm at *
  generalize frameL l = fl at *
  go_enter Tryd.func14, Tryd.ntmps14
  go_wp2_with fail
  refine (H1.out _).mono ?_
  rintro e w1 ⟨rfl, b1⟩
  go_wp2_with fail
  refine (HON.out _).mono ?_
  rintro e w2 ⟨rfl, rfl⟩
  go_wp2_with fail
  refine (H2.out _).mono ?_
  rintro e w2 ⟨rfl, b2⟩
  have HB : Hid (Below w.heap.size w w2) := b1.trans (b2.mono b1.size)
  clear b1 b2
  go_wp2
  go_ret
  exact ⟨rfl, HB.out⟩
theorem byteAt_zeros (L : List UInt8) (j i : Nat) : byteAt (L ++ List.replicate j 0) i = byteAt L i := by
  unfold byteAt
  simp only [List.getD_eq_getElem?_getD, List.getElem?_append]
  split
  · rfl
  · rename_i h
    rw [List.getElem?_eq_none (l := L) (by omega), List.getElem?_replicate]
    split <;> rfl
theorem least_zeros (L : List UInt8) (j : Nat) : least (L ++ List.replicate j 0) = least L := leastN_congr 4 fun i _ => byteAt_zeros L j i
theorem size_zeros (s : ByteArray) (j : Nat) : ByteArray.size ⟨(s.data.toList ++ List.replicate j 0).toArray⟩ = s.size + j := by
  show (s.data.toList ++ List.replicate j 0).toArray.size = _
  simp
def strLen : Value → Nat
  | .string b => b.size
  | _ => 0
end Go.Proofs.YtbpaongnehgodaaDoor
