/- Package frame: Put. -/
import Derived.Test.YtbpaongnehgodaaDoorFrameLeast
import Derived.Deep.RegionHeld3
import Derived.Deep.OwnRows
namespace Go.Proofs.YtbpaongnehgodaaDoor
open Go.ChangeShapes Go.WideShapes Go.ChangeAt Go.RowKit
/-- A text, as a value. -/
def txt (l : List UInt8) : Value := .string ⟨l.toArray⟩
theorem infoB8 : (Tryd.prog.info? 5).map (fun i => (i.zero, i.size, i.bytes)) = some (some (.int .u8 0), 1, 1) := by kernel_rfl
theorem makeBn (n : Nat) (hn : n ≤ 1000000) (w : World) : (Instr.makeSlice 54 (.int .i64 (n : Int)) (.int .i64 (n : Int))).run Tryd.prog w = .ok (.slice (some ⟨w.heap.size, 0, none⟩) n n) (w.alloc (.cells (madeCells #[.int .u8 0] n) 5)) :=
  run_make_row' 54 5 (.int .u8 0) 1 (by kernel_rfl) infoB8 rfl .i64 .i64 n (by omega) (by omega) w
theorem BytesAt.made (w : World) (n : Nat) : BytesAt (w.alloc (.cells (madeCells #[.int .u8 0] n) 5)) w.heap.size (List.replicate n 0) := by
  unfold BytesAt
  rw [heap_alloc_new]
  congr 2
  apply Array.ext
  · simp [madeCells]
  · intro i h1 h2
    simp [madeCells, Nat.mod_one, bv]
theorem BytesAt.setRow {w : World} {g : Nat} {L : List UInt8} (h : BytesAt w g L) (M : List UInt8) (cs : List Value) (hc : cs = M.map bv) : BytesAt (w.setRow g cs.toArray) g M := by
  subst hc
  exact setRow_heap w g _ _ _ _ h
theorem gr_setRow {g : Nat} {a b : World} (h : Gr g a b) (cs : Array Value) : Gr g a (b.setRow g cs) :=
  gr_trans h ⟨rfl, rfl, rfl, by rw [size_setRow]; exact Nat.le_refl _, fun k _ hne => setRow_other b g k cs (fun e => hne (by rw [e]))⟩
theorem frame_build (l : List UInt8) (k : Nat) (hk : k = 8 + l.length) (L1 L2 : List UInt8) (h1 : (List.replicate k (0 : UInt8)).take 0 ++ be4 l.length ++ (List.replicate k (0 : UInt8)).drop (0 + 4) = L1) (h2 : L1.take 4 ++ be4 (sumN 0 l) ++ L1.drop (4 + 4) = L2) :
    L2.take 8 ++ l ++ L2.drop (8 + l.length) = frameL l ∧ L1.length = k ∧ L2.length = k := by
  subst h1 h2
  subst hk
  have e1 : (List.replicate (8 + l.length) (0 : UInt8)).drop (0 + 4) = List.replicate (4 + l.length) 0 := by
    rw [List.drop_replicate, show 8 + l.length - (0 + 4) = 4 + l.length by omega]
  simp only [e1, List.take_zero, List.nil_append]
  have e2 : (be4 l.length ++ List.replicate (4 + l.length) (0 : UInt8)).take 4 = be4 l.length := by
    rw [List.take_append_of_le_length (by rw [be4_length]; exact Nat.le_refl _), List.take_of_length_le (by rw [be4_length]; exact Nat.le_refl _)]
  have e3 : (be4 l.length ++ List.replicate (4 + l.length) (0 : UInt8)).drop (4 + 4) = List.replicate l.length 0 := by
    rw [List.drop_append, be4_length, List.drop_of_length_le (by rw [be4_length]; decide), List.drop_replicate, List.nil_append]
    congr 1
    (try omega)
  rw [e2, e3]
  refine ⟨?_, ?_, ?_⟩
  · unfold frameL
    rw [List.take_append_of_le_length (by simp only [List.length_append, be4_length]; decide), List.take_of_length_le (by simp only [List.length_append, be4_length]; decide),
      List.drop_of_length_le (by simp only [List.length_append, be4_length, List.length_replicate]; omega)]
    simp
  · simp only [List.length_append, be4_length, List.length_replicate]; try omega
  · simp only [List.length_append, be4_length, List.length_replicate]; try omega
theorem put_long (s : ByteArray) (hs : s.size ≤ 1000000) (h : 1024 < s.size) (w : World) :
    Calls Tryd.prog 15 #[.string s] w (RetS (.tuple #[.string ⟨#[]⟩, .int .i64 18]) w) := by
  have HS := Lib.hid (size_any s hs w)
  rw [if_pos h] at HS
  clear hs h
  go_enter Tryd.func15, Tryd.ntmps15
  go_wp2_with fail
  refine HS.out.mono ?_
  rintro e w1 ⟨rfl, rfl⟩
  go_wp2
  go_ret2
  exact ⟨rfl, rfl⟩
set_option maxHeartbeats 2000000 in
theorem put_any (l : List UInt8) (h : l.length ≤ 1024) (w : World) (ht : Tab w) :
    Calls Tryd.prog 15 #[.string ⟨l.toArray⟩] w (Ret (.tuple #[txt (frameL l), .int .i64 0]) w) := by
  have hsz : ByteArray.size ⟨l.toArray⟩ = l.length := rfl
  have HS := Lib.hid (size_any ⟨l.toArray⟩ (by rw [hsz]; omega) w)
  rw [hsz, if_neg (by omega)] at HS
  obtain ⟨k, hk⟩ : ∃ k, 8 + l.length = k := ⟨_, rfl⟩
  rw [hk] at HS
  have hmk := makeBn k (by omega)
  have HM := Lib.hid (BytesAt.made w k)
  obtain ⟨L1, hL1⟩ : ∃ L1, (List.replicate k (0 : UInt8)).take 0 ++ be4 l.length ++ (List.replicate k (0 : UInt8)).drop (0 + 4) = L1 := ⟨_, rfl⟩
  obtain ⟨L2, hL2⟩ : ∃ L2, L1.take 4 ++ be4 (sumN 0 l) ++ L1.drop (4 + 4) = L2 := ⟨_, rfl⟩
  obtain ⟨hf, hl1, hl2⟩ := frame_build l k hk.symm L1 L2 hL1 hL2
  have H1 := Lib.hid (fun W hW => set_any w.heap.size 0 k k l.length (List.replicate k 0) (by omega) (by omega) (by omega) (by rw [List.length_replicate]; omega) W hW)
  rw [hL1] at H1
  have H2 := Lib.hid (fun W len cap (hlen : 4 ≤ len) (hl9 : len ≤ 1000000) hW => set_any w.heap.size 4 len cap (sumN 0 l) L1 (sumN_lt 0 l) hlen hl9 (by omega) W hW)
  rw [hL2] at H2
  have HOF := Lib.hid (fun W hW => of_any ⟨l.toArray⟩ (by rw [hsz]; omega) W hW)
  have el : (⟨l.toArray⟩ : ByteArray).data.toList = l := rfl
  rw [el] at HOF
  have HT := Lib.hid ht
  have HF := Lib.hid hf
  have hk1 : (k : Int) ≤ 1032 := by omega
  have hk2 : (8 : Int) ≤ (k : Int) := by omega
  have hk4 : (4 : Int) ≤ (k : Int) := by omega
  have hk3 : (l.length : Int) ≤ 1024 := by omega
  have hk0 : ((k : Int) == 0) = false := by rw [beq_eq_false_iff_ne]; omega
  have e32 : IntKind.u32.wrap (l.length : Int) = (l.length : Int) := by simp only [IntKind.wrap, IntKind.bits, IntKind.signed]; simp; omega
  clear hL1 hL2 el h ht hf hl1
  generalize sumN 0 l = sm at *
  go_enter Tryd.func15, Tryd.ntmps15
  go_wp2_with fail
  refine HS.out.mono ?_
  rintro e w1 ⟨rfl, rfl⟩
  go_wp2_with fail
  refine (H1.out _ (by exact HM.out)).mono ?_
  rintro e w2 ⟨rfl, g2, y2⟩
  have B1 : Below w.heap.size w (w.alloc (.cells (madeCells #[.int .u8 0] k) 5)) := (Below.refl _ _).alloc (Nat.le_refl _) _
  have B2 : Hid (Below w.heap.size w w2) := below_gr B1 g2 (Nat.le_refl _) (Nat.le_refl _)
  have Y2 := Lib.hid y2
  have T2 : Hid (Tab w2) := HT.out.next B2.out
  clear g2 y2 B1
  go_wp2_with fail
  have q2 := B2.out.size
  obtain ⟨g, hg⟩ : ∃ g, w.heap.size = g := ⟨_, rfl⟩
  rw [hg] at H1 H2 Y2 q2 ⊢
  have HG := Lib.hid hg
  clear hg H1 HM
  go_region_held3 (fun _ => True) (trivial) (first | (go_at_call 33; refine (HOF.out _ (by exact T2.out)).mono ?_; rintro e w3 ⟨rfl, rfl⟩) | (go_at_call 32; refine (H2.out _ _ _ (by omega) (by omega) (by exact Y2.out)).mono ?_; rintro e w4 ⟨rfl, g4, y4⟩; (have G4 := Lib.hid g4); (have Y4 := Lib.hid y4); clear g4 y4))
  all_goals
    have B4 : Hid (Below w.heap.size w w4) := below_gr B2.out (gr_trans (gr_below (by go_grown)) G4.out) (by rw [HG.out]; exact Nat.le_refl _) (Nat.le_refl _)
    by_cases h8 : k = 8
    · have hl0 : l = [] := List.length_eq_zero_iff.1 (by omega)
      subst hl0
      have hL : L2 = frameL [] := by
        have := HF.out
        simpa using this
      rw [hL] at Y4
      have hcp := fun (d : Option Addr) (dl dc : Nat) => Lib.run_copy_empty_string (P := Tryd.prog) w4 54 9 3 5 d dl dc ⟨([] : List UInt8).toArray⟩ Tryd.underlying54 (by kernel_rfl) rfl
      have hcv := run_convert_bytes_back (P := Tryd.prog) w4 54 9 5 ⟨g, 0, none⟩ k (frameL []) Tryd.underlying54 Tryd.underlying5 Tryd.underlying9 (fun j hj => by
        rw [add_plain, Nat.zero_add, Y4.out.cell j hj])
      rw [show (frameL []).length = k by rw [frameL_length, ← hk]] at hcv
      clear G4 Y4 HF hL
      subst h8
      unfold txt
      generalize frameL [] = fl at *
      go_wp2
      go_ret2
      exact ⟨rfl, B4.out⟩
    · have hk8 : ¬ (k : Int) = 8 := by omega
      have hcp := Lib.run_copy_row_string (P := Tryd.prog) w4 54 9 3 5 g 8 (k - 8) (k - 8) ⟨l.toArray⟩ (L2.map bv).toArray 5 Tryd.underlying54 (by kernel_rfl) Y4.out (by rw [hsz]; omega) (by simp only [hsz, List.size_toArray, List.length_map]; omega)
      have hrow : ((L2.map bv).toArray.toList.take 8 ++ Lib.byteCells (⟨l.toArray⟩ : ByteArray).data.toList ++ (L2.map bv).toArray.toList.drop (8 + ByteArray.size ⟨l.toArray⟩)) = (frameL l).map bv := by
        rw [← HF.out, hsz]
        simp only [List.map_append, List.map_take, List.map_drop]
        rfl
      rw [hrow] at hcp
      have Y5 := BytesAt.setRow Y4.out (frameL l) ((frameL l).map bv) rfl
      have B5 : Hid (Below w.heap.size w (w4.setRow g ((frameL l).map bv).toArray)) := below_gr B4.out (gr_setRow (gr_refl _ _) _) (by rw [HG.out]; exact Nat.le_refl _) (Nat.le_refl _)
      obtain ⟨w5, hw5⟩ : ∃ x, w4.setRow g ((frameL l).map bv).toArray = x := ⟨_, rfl⟩
      rw [hw5] at hcp Y5 B5
      have hcv := run_convert_bytes_back (P := Tryd.prog) w5 54 9 5 ⟨g, 0, none⟩ k (frameL l) Tryd.underlying54 Tryd.underlying5 Tryd.underlying9 (fun j hj => by
        rw [add_plain, Nat.zero_add, Y5.cell j hj])
      rw [show (frameL l).length = k by rw [frameL_length, hk]] at hcv
      clear hrow hw5 Y5 G4 Y4 HF B4
      unfold txt
      generalize frameL l = fl at *
      go_wp2
      go_ret2
      exact ⟨rfl, B5.out⟩
end Go.Proofs.YtbpaongnehgodaaDoor
