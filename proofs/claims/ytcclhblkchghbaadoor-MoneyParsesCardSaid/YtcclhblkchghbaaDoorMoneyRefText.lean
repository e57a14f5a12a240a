/- complineref01: Digits, Text: for all numbers. -/
import Derived.Test.YtcclhblkchghbaaDoorMoneyParseMath
namespace Go.Proofs.YtcclhblkchghbaaDoor
open Go.ChangeShapes Go.WideShapes Go.ChangeAt Go.RowKit
/-- A digit's byte. -/
def dch (d : Nat) : UInt8 := UInt8.ofNat (48 + d)
/-- How far the digits are put together. -/
def DSt (u n : Nat) (l : List UInt8) : Prop := n < 18446744073709551616 ∧ l.length ≤ 100 ∧ (if n < 10 then Lib.decDigits u = l else Lib.decDigits u = Lib.decDigits (n / 10) ++ l)
theorem DSt.start {u : Nat} (h : u < 18446744073709551616) : DSt u u [dch (u % 10)] := by
  refine ⟨h, by simp, ?_⟩
  split
  · rename_i h1
    rw [Lib.decDigits_one h1, dch, Nat.mod_eq_of_lt h1]
  · rename_i h1
    exact decDigits_step h1
theorem DSt.next {u n : Nat} {l : List UInt8} (h : DSt u n l) (hn : 9 < n) (hl : l.length ≤ 99) : DSt u (n / 10) (dch (n / 10 % 10) :: l) := by
  obtain ⟨h1, h2, h3⟩ := h
  rw [if_neg (by omega)] at h3
  refine ⟨by omega, by simp; omega, ?_⟩
  split
  · rename_i h4
    rw [h3, Lib.decDigits_one h4, dch, Nat.mod_eq_of_lt h4]
    rfl
  · rename_i h4
    rw [h3, decDigits_step h4, dch]
    simp
theorem DSt.len {u n : Nat} {l : List UInt8} (h : DSt u n l) (hu : u < 18446744073709551616) : l.length ≤ 20 := by
  have h1 := dd_len u hu
  have h2 := h.2.2
  split at h2
  · rw [← h2]; exact h1
  · rw [h2] at h1
    simp at h1
    omega
theorem DSt.done {u n : Nat} {l : List UInt8} (h : DSt u n l) (hn : ¬ 9 < n) : Lib.decDigits u = l := by
  have h2 := h.2.2
  rw [if_pos (by omega)] at h2
  exact h2
/-- A byte, made a text. -/
theorem conv_one (d : Nat) (hd : d < 10) (w : World) :
    (convert 61 9 (.slice (some ⟨w.heap.size, 0, none⟩) 1 1)).run Tryd.prog (w.alloc (.cells #[.int .u8 (48 + (d : Int))] 5)) = .ok (txt [dch d]) (w.alloc (.cells #[.int .u8 (48 + (d : Int))] 5)) := by
  have h := run_convert_bytes_back (P := Tryd.prog) (w.alloc (.cells #[.int .u8 (48 + (d : Int))] 5)) 61 9 5 ⟨w.heap.size, 0, none⟩ 1 [UInt8.ofNat (48 + d)] Tryd.underlying61 Tryd.underlying5 Tryd.underlying9 (fun j hj => by
    rw [Lib.add_plain, World.cell?_alloc_new]
    simp at hj
    subst hj
    show some (Value.int .u8 (48 + (d : Int))) = some (.int .u8 ((UInt8.ofNat (48 + d)).toNat : Int))
    rw [dig_nat hd]
    simp)
  exact h
set_option maxHeartbeats 1000000 in
theorem refdigits_any (u : Nat) (hu : u < 18446744073709551616) (w : World) :
    Calls Tryd.prog 36 #[.int .u64 u] w (Ret (txt (Lib.decDigits u)) w) := by
  have HU := Lib.hid hu
  have hcv := conv_one (u % 10) (by omega) w
  rw [show ((u % 10 : Nat) : Int) = (u : Int) % 10 from by omega] at hcv
  clear hu
  go_enter Tryd.func36, Tryd.ntmps36
  go_wp2_with fail
  clear hcv
  go_loopw [0, 3] (fun nv sv wr => ∃ n l, nv = .int .u64 (n : Nat) ∧ sv = txt l ∧ DSt u n l ∧ Below w.heap.size w wr) (fun nv _ _ => (intOf nv).toNat)
  case atStart => exact ⟨u, _, rfl, rfl, DSt.start HU.out, by go_grown⟩
  case round =>
    obtain ⟨n, l, rfl, rfl, hD, hbel⟩ := hrel
    by_cases hlt : 9 < n
    · have h1 : (9 : Int) < n := by omega
      have hlen := hD.len HU.out
      have HN := Lib.hid (hD.next hlt (by omega))
      clear hlen
      have hl : l.length ≤ 100 := hD.2.1
      have hcv := conv_one (n / 10 % 10) (by omega) wr
      rw [show ((n / 10 % 10 : Nat) : Int) = (n : Int) / 10 % 10 from by omega] at hcv
      have hw : IntKind.u64.wrap ((n : Int) / 10) = (n : Int) / 10 := by have := hD.1; rw [IntKind.wrap_u64]; omega
      have HB := Lib.hid hbel
      clear hD hbel
      have hadd : ∀ W, (Op.stringOp .add ⟨#[dch (n / 10 % 10)]⟩ ⟨l.toArray⟩).run Tryd.prog W = .ok (.string ⟨(dch (n / 10 % 10) :: l).toArray⟩) W := fun W => run_string_add_lists (P := Tryd.prog) W [dch (n / 10 % 10)] l (by simp) (by omega)
      generalize dch (n / 10 % 10) = c at *
      unfold txt at hcv ⊢
      go_wp2_with fail
      go_roundw
      case rel => exact ⟨n / 10, _, by go_num, rfl, HN.out, (HB.out.alloc HB.out.size _)⟩
      case measure => simp [intOf]; omega
    · have h1 : ¬ (9 : Int) < n := by omega
      have HE := Lib.hid (hD.done hlt)
      have HB := Lib.hid hbel
      clear hD hbel
      unfold txt
      go_wp2_with fail
      go_ret
      exact ⟨by rw [HE.out]; rfl, HB.out⟩
/-- The digits as the document lays them: at least three, a dot ahead of the last two. -/
def padL (l : List UInt8) : List UInt8 := if l.length < 2 then 48 :: 48 :: l else if l.length < 3 then 48 :: l else l
end Go.Proofs.YtcclhblkchghbaaDoor
