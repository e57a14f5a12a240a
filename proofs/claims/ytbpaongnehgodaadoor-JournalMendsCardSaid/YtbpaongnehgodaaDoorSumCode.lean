/- Package sum: fourShifts, On, Of, Fold. -/
import Derived.Test.YtbpaongnehgodaaDoorSumMath
import Derived.WalkKit
import Derived.ProofKit
import Derived.OpenShut
import Derived.Handy
import Derived.Lib.Hide
import Derived.Lib.LaidTab
import Derived.Deep.QuietTactic
import Derived.BigQuiet
import Derived.Deep.Cut
namespace Go.Proofs.YtbpaongnehgodaaDoor
open Go.ChangeShapes Go.WideShapes Go.ChangeAt Go.RowKit
def Ret (v : Value) (w : World) (e : Ending) (w' : World) : Prop := e = .returned v ∧ Below w.heap.size w w'
/-- It returns v, and the world is as it was. -/
def RetS (v : Value) (w : World) (e : Ending) (w' : World) : Prop := e = .returned v ∧ w = w'
def halvesZ : List Int := [0, 498536548, 997073096, 651767980, 1994146192, 1802195444, 1303535960, 1342533948, 3988292384, 4027552580, 3604390888, 3412177804, 2607071920, 2262029012, 2685067896, 3183342108]
theorem halves_at : ∀ i, i < 16 → halvesZ.getD i 0 = ((halvesN[i]! : Nat) : Int) := by decide
theorem halves_lt : ∀ i, i < 16 → halvesN[i]! < 4294967296 := by decide
/-- The table is as it was laid. -/
def Tab (w : World) : Prop := Lib.TabIs Tryd.prog w "compline/sum.halves" .u32 halvesZ
theorem gTab : Tryd.prog.globalNamed "compline/sum.halves" = some 0 := by kernel_rfl
theorem Tab.below {w w' : World} {B : Nat} (h : Tab w) (hb : Below B w w') (hB : 0 < B) : Tab w' := by
  unfold Tab Lib.TabIs World.var? at *
  rw [gTab] at h ⊢
  simp only [Option.bind_some] at h ⊢
  rw [hb.block _ hB]
  exact h
theorem Tab.lt {w : World} (h : Tab w) : 0 < w.heap.size := by
  unfold Tab Lib.TabIs World.var? at h
  rw [gTab] at h
  simp only [Option.bind_some] at h
  rcases Nat.lt_or_ge 0 w.heap.size with h' | h'
  · exact h'
  · rw [Array.getElem?_eq_none h'] at h; simp at h
theorem Tab.next {w w' : World} (h : Tab w) (hb : Below w.heap.size w w') : Tab w' := h.below hb h.lt
theorem Tab.cell {w : World} (h : Tab w) (i : Nat) (hi : i < 16) : w.cell? ⟨0, i, none⟩ = some (.int .u32 ((halvesN[i]! : Nat) : Int)) := by
  rw [← halves_at i hi]
  exact Lib.TabIs.cell h gTab i hi
theorem xor32 (a b : Nat) (ha : a < 4294967296) (hb : b < 4294967296) : bits BinOp.xor IntKind.u32 (a : Int) (b : Int) = ((a ^^^ b : Nat) : Int) := by
  have h := xor_lt32 ha hb
  have e1 : (BitVec.ofInt 32 (a : Int)).toNat = a := by rw [BitVec.toNat_ofInt]; omega
  have e2 : (BitVec.ofInt 32 (b : Int)).toNat = b := by rw [BitVec.toNat_ofInt]; omega
  show IntKind.u32.wrap ((BitVec.ofInt 32 (a : Int) ^^^ BitVec.ofInt 32 (b : Int)).toNat) = _
  rw [BitVec.toNat_xor, e1, e2]
  simp [IntKind.wrap, IntKind.bits, IntKind.signed]
  omega
set_option maxHeartbeats 400000 in
theorem four_any (c : Nat) (hc : c < 4294967296) (w : World) (ht : Tab w) :
    Calls Tryd.prog 47 #[.int .u32 (c : Nat)] w (RetS (.int .u32 (shift4 c : Nat)) w) := by
  obtain ⟨m, hm⟩ : ∃ m, m = c % 16 := ⟨_, rfl⟩
  have hm2 : m < 16 := by omega
  have cell := ht.cell m hm2
  have e1 : (c : Int) % 16 = (m : Nat) := by omega
  have h1 : (c : Int) < 4294967296 := by omega
  have HV : Hid (((shift4 c : Nat) : Int) = bits BinOp.xor IntKind.u32 ((c / 16 : Nat) : Int) ((halvesN[m]! : Nat) : Int)) := by
    show _ = _
    rw [xor32 _ _ (by omega) (halves_lt m hm2), hm, ← shift4_table]
  obtain ⟨h, hh⟩ : ∃ h, h = halvesN[m]! := ⟨_, rfl⟩
  rw [← hh] at cell HV
  clear hh hm ht hc
  go_enter Tryd.func47, Tryd.ntmps47
  go_wp2
  go_ret
  exact ⟨by rw [HV.out]; rfl, rfl⟩
theorem not32 (c : Nat) (hc : c < 4294967296) : bits BinOp.xor IntKind.u32 IntKind.u32.max (c : Int) = ((4294967295 - c : Nat) : Int) := by
  have e1 : (BitVec.ofInt 32 (c : Int)).toNat = c := by rw [BitVec.toNat_ofInt]; omega
  have e2 : BitVec.ofInt 32 IntKind.u32.max = BitVec.allOnes 32 := by decide
  show IntKind.u32.wrap ((BitVec.ofInt 32 IntKind.u32.max ^^^ BitVec.ofInt 32 (c : Int)).toNat) = _
  rw [e2, BitVec.allOnes_xor, BitVec.toNat_not, e1]
  simp [IntKind.wrap, IntKind.bits, IntKind.signed]
  omega
theorem take_snoc (s : ByteArray) (k : Nat) (h : k < s.size) : s.data.toList.take (k + 1) = s.data.toList.take k ++ [s[k]] := by
  rw [List.take_succ_eq_append_getElem (by simpa using h)]; rfl
theorem regN_snoc (c : Nat) (s : ByteArray) (k : Nat) (h : k < s.size) : regN c (s.data.toList.take (k + 1)) = shift4 (shift4 (regN c (s.data.toList.take k) ^^^ s[k].toNat)) := by
  rw [take_snoc s k h, regN_append]; rfl
/-- A sum, and bytes behind it. -/
def sumN (n : Nat) (l : List UInt8) : Nat := 4294967295 - regN (4294967295 - n) l
theorem sumN_lt (n : Nat) (l : List UInt8) : sumN n l < 4294967296 := by unfold sumN; omega
theorem ret32 {a b : Nat} {w : World} (h : a = b) : RetS (.int .u32 (b : Nat)) w (.returned (.int .u32 (a : Nat))) w := ⟨by rw [h], rfl⟩
set_option maxHeartbeats 400000 in
theorem on_any (n : Nat) (hn : n < 4294967296) (s : ByteArray) (hs : s.size ≤ 1000000) (w : World) (ht : Tab w) :
    Calls Tryd.prog 44 #[.int .u32 (n : Nat), .string s] w (RetS (.int .u32 (sumN n s.data.toList : Nat)) w) := by
  have HF := Lib.hid (fun c hc => four_any c hc w ht)
  have en := not32 n hn
  obtain ⟨c0, hc0⟩ : ∃ c0, c0 = 4294967295 - n := ⟨_, rfl⟩
  have HC0 : Hid (c0 < 4294967296) := by show c0 < _; omega
  have HV : Hid (∀ r, r < 4294967296 → regN c0 s.data.toList = r → sumN n s.data.toList = 4294967295 - r) := fun r _ h => by unfold sumN; rw [← hc0, h]
  rw [← hc0] at en
  have HS := Lib.hid hs
  have hs2 : (s.size : Int) ≤ 1000000 := by omega
  clear hc0 ht hn hs
  go_enter Tryd.func44, Tryd.ntmps44
  go_wp2
  clear en
  go_loop [5, 11] (fun rv iv => ∃ k : Nat, k ≤ s.size ∧ iv = .int .i64 k ∧ rv = .int .u32 (regN c0 (s.data.toList.take k) : Nat)) (fun _ iv => s.size - (intOf iv).toNat)
  case atStart => exact ⟨0, Nat.zero_le _, rfl, rfl⟩
  case round =>
    obtain ⟨k, hk, rfl, rfl⟩ := hrel
    have hk2 : (k : Int) ≤ s.size := by omega
    have hr := regN_lt (s.data.toList.take k) HC0.out
    by_cases hlt : k < s.size
    · have hlt2 : (k : Int) < s.size := by omega
      have HN := Lib.hid (regN_snoc c0 s k hlt)
      obtain ⟨c, hc⟩ : ∃ c, c = regN c0 (s.data.toList.take k) := ⟨_, rfl⟩
      rw [← hc] at hr HN ⊢
      have hx : bits BinOp.xor IntKind.u32 (c : Int) ((s[k].toNat : Int) % 4294967296) = ((c ^^^ s[k].toNat : Nat) : Int) := by
        rw [Int.emod_eq_of_lt (by omega) (by have := byte_lt s[k]; omega)]
        exact xor32 c s[k].toNat hr (byte_lt _)
      have hl := xor_lt32 hr (byte_lt s[k])
      obtain ⟨x, hxx⟩ : ∃ x, x = c ^^^ s[k].toNat := ⟨_, rfl⟩
      rw [← hxx] at HN hx hl
      have C1 := Lib.hid (HF.out x hl)
      have hl2 := shift4_lt hl
      obtain ⟨y, hy⟩ : ∃ y, y = shift4 x := ⟨_, rfl⟩
      rw [← hy] at HN C1 hl2
      have C2 := Lib.hid (HF.out y hl2)
      have HL := Lib.hid hlt
      have HX := Lib.hid hx
      clear hxx hy hl hl2 hr hc hx
      go_wp2_with fail
      rw [HX.out]
      refine C1.out.mono ?_
      rintro e w1 ⟨rfl, rfl⟩
      go_wp2_with fail
      refine C2.out.mono ?_
      rintro e w1 ⟨rfl, rfl⟩
      go_wp2
      go_round
      case rel => exact ⟨k + 1, by have := HL.out; omega, by go_num, by rw [HN.out]⟩
      case measure => have := HL.out; simp [intOf]; omega
    · obtain rfl : k = s.size := by omega
      rw [List.take_of_length_le (by simp)] at hr ⊢
      obtain ⟨c, hc⟩ : ∃ c, regN c0 s.data.toList = c := ⟨_, rfl⟩
      rw [hc] at hr ⊢
      have en := not32 c hr
      have HW := Lib.hid (HV.out c hr hc)
      clear hc hr
      go_wp2
      go_ret
      exact ret32 HW.out.symm
end Go.Proofs.YtbpaongnehgodaaDoor
