/- The document's table: Drop. -/
import Derived.Test.YthmbpoldjddheaaTabPut
namespace Go.Proofs.Ythmbpoldjddheaa
open Go.ChangeShapes Go.WideShapes Go.ChangeAt Go.RowKit
/-- Past the place p. -/
def past (p i : Nat) : Nat := if i < p then i else i + 1
/-- How many of the first k are kept, where that at p goes. -/
def kept (p k : Nat) : Nat := if k ≤ p then k else k - 1
theorem past_kept {p k : Nat} (h : k ≠ p) : past p (kept p k) = k := by unfold past kept; split <;> split <;> omega
theorem kept_next {p k : Nat} (h : k ≠ p) : kept p (k + 1) = kept p k + 1 := by unfold kept; split <;> split <;> omega
theorem kept_same {p : Nat} : kept p (p + 1) = kept p p := by unfold kept; split <;> split <;> omega
theorem OwnsR.low {w : World} {B B' T n : Nat} {v : Value} {a : Nat → Int} {s : Nat → ByteArray} (h : OwnsR w B T v n a s) (hb : B' ≤ B) : OwnsR w B' T v n a s := by
  refine ⟨h.1, ?_⟩
  rcases h.2 with r | ⟨g, cap, cur, e1, e2, e3⟩
  · exact Or.inl r
  · exact Or.inr ⟨g, cap, cur, e1, Nat.le_trans hb e2, e3⟩
set_option maxRecDepth 100000 in
set_option maxHeartbeats 4000000 in
theorem refdrop_any (B g room n p : Nat) (a : Nat → Int) (s : Nat → ByteArray) (v : Value) (x : Int) (hn : n ≤ 1000) (hpx : p < n → a p = x) (hno : ∀ i, i < n → i ≠ p → a i ≠ x) (w : World) (hB : B ≤ w.heap.size) (h : QAt w B g room n a s v) :
    Calls Try.prog 50 #[.pointer (some ⟨g, 0, none⟩), .int .i64 x] w (fun e w' => ∃ v' : Value, e = .returned (.tuple #[]) ∧ QAt w' B g room (kept p n) (fun i => a (past p i)) (fun i => s (past p i)) v' ∧ Kept (fun k => k = g) w w') := by
  obtain ⟨ao, cap, rfl, hr⟩ := h.rows.view
  have HQ := Lib.hid h
  have HI := Lib.hid hr
  have HPX := Lib.hid hpx
  have HNO := Lib.hid hno
  obtain ⟨i0, hinf, hz0, hz1, hz2⟩ := info_parts infoQ
  have n2 : (n : Int) ≤ 1000 := by omega
  have HBW := Lib.hid hB
  have hg : g < w.heap.size := lt_of_block h.here
  have HHERE := Lib.hid h.here
  clear hn hB h hr hpx hno
  go_enter Try.func50, Try.ntmps50
  go_wp2_with fail
  go_loopw [4, 5] (fun sv iv wr => ∃ k : Nat, k ≤ n ∧ iv = .int .i64 (k : Nat) ∧ OwnsR wr w.heap.size 37 sv (kept p k) (fun i => a (past p i)) (fun i => s (past p i)) ∧ Below w.heap.size w wr) (fun _ iv _ => n - (intOf iv).toNat)
  case atStart => exact ⟨0, Nat.zero_le _, rfl, OwnsR.nil _ _ _ _ _, Below.refl _ _⟩
  case round =>
    obtain ⟨k, hk, rfl, hp, hbel⟩ := hrel
    have hk2 : (k : Int) ≤ n := by omega
    have hh := (hbel.block g hg).trans HHERE.out
    have k1 : wr.cell? ⟨g, 1, none⟩ = some (.slice ao n cap) := by simp [World.cell?, hh]
    by_cases hlt : k < n
    · have hlt2 : (k : Int) < n := by omega
      have HL := Lib.hid hlt
      obtain ⟨b, off, rfl, hb, hcl⟩ := HI.out (by omega)
      have c1 := (hbel.cell (by exact hb)).trans (hcl k hlt).1
      have c2 := (hbel.cell (by exact hb)).trans (hcl k hlt).2
      obtain ⟨y, hy⟩ : ∃ y, a k = y := ⟨_, rfl⟩
      obtain ⟨t, ht⟩ : ∃ t, s k = t := ⟨_, rfl⟩
      rw [hy] at c1
      rw [ht] at c2
      have HY := Lib.hid hy
      have HTT := Lib.hid ht
      by_cases hkp : k = p
      · have g1 : (y != x) = false := by rw [bne_eq_false_iff_eq, ← hy, hkp]; exact HPX.out (by omega)
        have HKP := Lib.hid hkp
        have HP := Lib.hid hp
        have HBE := Lib.hid hbel
        clear hy ht hcl hb hlt hh hkp hp hbel
        go_wp2_with fail
        go_roundw
        case rel => exact ⟨k + 1, HL.out, by go_num, by
            have e : kept p (k + 1) = kept p k := by rw [HKP.out]; exact kept_same
            rw [e]; exact HP.out, HBE.out⟩
        case measure => have := HL.out; simp [intOf]; omega
      · have g1 : (y != x) = true := by rw [bne_iff_ne, ← hy]; exact HNO.out k hlt hkp
        have HKP := Lib.hid hkp
        have hkn : kept p k ≤ 1000 := by unfold kept; split <;> omega
        clear hy ht hcl hb hlt hh hkp
        go_wp2_with (at_builtin; refine wpList_append_row _ rfl _ _ 27 rfl w.heap.size 37 i0 (.agg #[.int .i64 0, .string ⟨#[]⟩]) 24 Try.underlying27 hinf hz0 hz1 hz2 rfl _ _ _ rfl (hp.alloc _) wr.heap.size 1 (.int .i64 y) (.string t) rfl ?a1 ?a2 rfl rfl ?a3 ?a4 ?a5 ?_)
        case a1 => rw [World.cell?_alloc_new]; rfl
        case a2 => rw [World.cell?_alloc_new]; rfl
        case a3 => unfold maxLen; omega
        case a4 => omega
        case a5 => have := hbel.size; simp; omega
        intro v4 w4 hown4 hgrow4 _
        have HO4 : Hid (OwnsR w4 w.heap.size 37 v4 (kept p (k + 1)) (fun i => a (past p i)) (fun i => s (past p i))) := by
          rw [kept_next HKP.out]
          refine OwnsR.next ?_
          rw [past_kept HKP.out, HY.out, HTT.out]
          exact hown4
        have HBE : Hid (Below w.heap.size w w4) := (hbel.alloc hbel.size _).grown hgrow4 (by have := hbel.size; simp; omega) (fun k' hk' => (hp.lt k' hk').1)
        clear hown4 hgrow4 hp hbel hkn
        go_wp2
        go_roundw
        case rel => exact ⟨k + 1, HL.out, by go_num, HO4.out, HBE.out⟩
        case measure => have := HL.out; simp [intOf]; omega
    · obtain rfl : k = n := by omega
      obtain ⟨ro, rc, rfl, _⟩ := hp.view
      have HP := Lib.hid hp
      have HBE := Lib.hid hbel
      have HHH := Lib.hid hh
      have jf : wr.frozen? ⟨g, 1, none⟩ = false := by simp [World.frozen?, hh]
      clear hp hbel hlt hk hh
      go_wp2_with fail
      go_end0
      have hne : (Value.slice ro (kept p k) rc).ownBlock ≠ some g := fun e => by
        have := (World.ownsRow.lt HP.out g e).1
        omega
      refine ⟨.slice ro (kept p k) rc, rfl, ⟨HQ.out.lo, ?_, World.ownsRow.kept (OwnsR.low HP.out HBW.out) (setCell_grown wr ⟨g, 1, none⟩ _) (Or.inr hne), hne⟩, ?_⟩
      · simp only [World.setCell, Array.getElem?_modify]
        rw [if_pos trivial, HHH.out]
        rfl
      · exact (Kept.of_below HBE.out).trans (Kept.of_grown (setCell_grown wr ⟨g, 1, none⟩ _) fun k hk => by injection hk with hk; exact hk.symm)
end Go.Proofs.Ythmbpoldjddheaa
