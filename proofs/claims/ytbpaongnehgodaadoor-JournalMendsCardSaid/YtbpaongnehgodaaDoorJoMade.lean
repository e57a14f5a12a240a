/- The law's made: a journal of some records. -/
import Derived.Test.YtbpaongnehgodaaDoorJoVals
import Derived.Test.YtbpaongnehgodaaDoorFrameLaw3
import Derived.Deep.RegionWith
namespace Go.Proofs.YtbpaongnehgodaaDoor
open Go.ChangeShapes Go.WideShapes Go.ChangeAt Go.RowKit
/-- made tells the journal, or that a record is too long. -/
def MadeP (t : Nat → ByteArray) (n : Nat) (w : World) (e : Ending) (w' : World) : Prop :=
  Below w.heap.size w w' ∧ (((∀ i, i < n → (t i).size ≤ 100) ∧ e = .returned (.tuple #[.agg #[.string ⟨(framesL (lst t n)).toArray⟩, .string ⟨#[]⟩, .int .i64 (-1), .bool false], .bool true])) ∨ (¬ (∀ i, i < n → (t i).size ≤ 100) ∧ ∃ S, e = .returned (.tuple #[.agg #[.string S, .string ⟨#[]⟩, .int .i64 (-1), .bool false], .bool false])))
theorem framesL_len2 (t : Nat → ByteArray) : ∀ n, (∀ i, i < n → (t i).size ≤ 100) → (framesL (lst t n)).length ≤ 108 * n
  | 0, _ => by simp [lst, framesL]
  | n + 1, h => by
    have h1 := framesL_len2 t n (fun i hi => h i (by omega))
    have h2 := h n (by omega)
    have h3 := len_eq (t n)
    rw [framesL_lst, List.length_append, frameL_length]
    omega
theorem ofl12 (s : ByteArray) : (⟨s.data.toList.toArray⟩ : ByteArray) = s := by cases s; simp
set_option maxHeartbeats 4000000 in
theorem made_any (t : Nat → ByteArray) (ao : Option Addr) (n cap : Nat) (hn : n ≤ 12) (hz : ∀ i, i < n → (t i).size ≤ 9223372036854775807) (w : World) (h : StrsAt w ao n (fun i => .string (t i))) :
    Calls Tryd.prog 7 #[.slice ao n cap] w (MadeP t n w) := by
  have hn2 : (n : Int) ≤ 12 := by omega
  have HST := Lib.hid h
  have HX := Lib.hid (jboxes2 w (.cells #[.string ⟨#[]⟩, .string ⟨#[]⟩, .int .i64 0, .bool false] 26) (.cells #[.string ⟨#[]⟩, .string ⟨#[]⟩, .int .i64 (-1), .bool false] 26))
  have HZ := Lib.hid hz
  clear h hn hz
  go_enter Tryd.func7, Tryd.ntmps7
  go_wp2_with fail
  go_loopw [5] (fun iv wr => ∃ j : Nat, j ≤ n ∧ iv = .int .i64 j ∧ DB wr (w.heap.size + 1) ⟨(framesL (lst t j)).toArray⟩ ⟨#[]⟩ (-1) false ∧ wr.heap[w.heap.size]? = some (.cells #[.string ⟨#[]⟩, .string ⟨#[]⟩, .int .i64 0, .bool false] 26 (0, 0)) ∧ Below w.heap.size w wr ∧ ∀ i, i < j → (t i).size ≤ 100) (fun iv _ => n - (intOf iv).toNat)
  case atStart => exact ⟨0, Nat.zero_le _, rfl, HX.out.2.1, HX.out.1, HX.out.2.2, fun i hi => absurd hi (Nat.not_lt_zero i)⟩
  case round =>
    obtain ⟨j, hj, rfl, hd, hr, hbel, hall⟩ := hrel
    have hj2 : (j : Int) ≤ n := by omega
    have HD := Lib.hid hd
    have HR := Lib.hid hr
    have HB := Lib.hid hbel
    have HAL := Lib.hid hall
    by_cases hlt : j < n
    · have hlt2 : (j : Int) < n := by omega
      have HLT := Lib.hid hlt
      obtain ⟨b, off, rfl, hblt, hcs⟩ := HST.out.below hbel (by omega)
      have c0 : wr.cell? ⟨b, off + j, none⟩ = some (.string (t j)) := hcs j hlt
      have htz := HZ.out j hlt
      by_cases hbig : 100 < (t j).size
      · have d1 : decide (100 < ((t j).size : Int)) = true := decide_eq_true (by omega)
        have d2 : decide (100 < (t j).size) = true := decide_eq_true hbig
        have HNO : Hid (¬ (∀ i, i < n → (t i).size ≤ 100)) := fun h => by have := h j hlt; omega
        obtain ⟨S, hS⟩ : ∃ S, (⟨(framesL (lst t j)).toArray⟩ : ByteArray) = S := ⟨_, rfl⟩
        rw [hS] at HD
        obtain ⟨k0, k1, k2, k3⟩ := HD.out.cells
        obtain ⟨q0, q1, q2, q3⟩ := four_read HR.out
        have f0 := four_free HR.out 0
        have f1 := four_free HR.out 1
        have f2 := four_free HR.out 2
        have f3 := four_free HR.out 3
        obtain ⟨x, hx⟩ : ∃ x, t j = x := ⟨_, rfl⟩
        rw [hx] at c0 d1 d2 htz
        clear hd hr hbel hall hcs hblt hlt hS hbig hx
        go_wp2_with fail
        obtain ⟨⟨z0, z1⟩, z2, z3⟩ := four_cells HR.out (.string S) (.string ⟨#[]⟩) (.int .i64 (-1)) (.bool false)
        refine bodyPost_ret (v := .tuple #[.agg #[.string S, .string ⟨#[]⟩, .int .i64 (-1), .bool false], .bool false]) (by simp [results, Tryd.results7, go_sem, z0, z1, z2, z3]) rfl ?_
        exact ⟨below_four HB.out (Nat.le_refl _) _ _ _ _, Or.inr ⟨HNO.out, S, rfl⟩⟩
      · have d1 : decide (100 < ((t j).size : Int)) = false := decide_eq_false (by omega)
        have d2 : decide (100 < (t j).size) = false := decide_eq_false hbig
        have hl := framesL_len2 t j hall
        have hte := len_eq (t j)
        have HP := Lib.hid (fun W => refput_any (t j).data.toList (by omega) W)
        have hfl := frameL_length (t j).data.toList
        have HNX := Lib.hid (framesL_lst t j)
        have HNA : Hid (∀ i, i < j + 1 → (t i).size ≤ 100) := fun i hi => by
          rcases Nat.lt_or_ge i j with h | h
          · exact hall i h
          · obtain rfl : i = j := by omega
            omega
        rw [ofl12] at HP
        obtain ⟨L, hL⟩ : ∃ L, framesL (lst t j) = L := ⟨_, rfl⟩
        obtain ⟨R, hR⟩ : ∃ R, frameL (t j).data.toList = R := ⟨_, rfl⟩
        rw [hL] at HD HNX hl
        rw [hR] at HP HNX hfl
        have hadd : ∀ W, (Op.stringOp .add ⟨L.toArray⟩ ⟨R.toArray⟩).run Tryd.prog W = .ok (.string ⟨(L ++ R).toArray⟩) W := fun W => run_string_add_lists (P := Tryd.prog) W L R (by omega) (by omega)
        obtain ⟨k0, k1, k2, k3⟩ := HD.out.cells
        have f0 := four_free HD.out 0
        obtain ⟨x, hx⟩ : ∃ x, t j = x := ⟨_, rfl⟩
        rw [hx] at c0 d1 d2 htz HP
        unfold txt at HP
        have HLD : Hid (w.heap.size + 1 < wr.drew.heap.size) := lt_of_block HD.out
        have HLR : Hid (w.heap.size < wr.drew.heap.size) := lt_of_block HR.out
        clear hd hr hbel hall hcs hblt hlt hL hR hbig hx hl hte hfl
        go_wp2_with fail
        go_region_with ((go_at_call 14; refine (HP.out _).mono ?_; rintro en w2 ⟨rfl, h2⟩; (have c2 : DB w2 (w.heap.size + 1) ⟨L.toArray⟩ ⟨#[]⟩ (-1) false := (h2.block _ HLD.out).trans HD.out); obtain ⟨p0, p1, p2, p3⟩ := c2.cells; (have g0 := four_free c2 0); (have HC2 := Lib.hid c2); (have HR2 : Hid (w2.heap[w.heap.size]? = some (.cells #[.string ⟨#[]⟩, .string ⟨#[]⟩, .int .i64 0, .bool false] 26 (0, 0))) := (h2.block _ HLR.out).trans HR.out); (have HB2 : Hid (Below w.heap.size w w2) := HB.out.trans (((Below.refl wr.heap.size wr).drew.trans h2).mono HB.out.size)); clear h2 c2))
        all_goals
          go_wp2_with fail
          go_roundw
          case rel => exact ⟨j + 1, by have := HLT.out; omega, by go_num, by rw [HNX.out]; exact db_set HC2.out rfl, (Below.heap_setCell _ _ _ _ (by show w.heap.size ≠ w.heap.size + 1; omega)).trans HR2.out, HB2.out.setCell (by exact Nat.le_succ _) _, HNA.out⟩
          case measure => have := HLT.out; simp [intOf]; omega
    · have heq : j = n := by omega
      subst heq
      have hlt2 : ¬ ((j : Nat) : Int) < j := by omega
      obtain ⟨S, hS⟩ : ∃ S, (⟨(framesL (lst t j)).toArray⟩ : ByteArray) = S := ⟨_, rfl⟩
      have HSS := Lib.hid hS
      rw [hS] at HD
      obtain ⟨k0, k1, k2, k3⟩ := HD.out.cells
      obtain ⟨q0, q1, q2, q3⟩ := four_read HR.out
      have f0 := four_free HR.out 0
      have f1 := four_free HR.out 1
      have f2 := four_free HR.out 2
      have f3 := four_free HR.out 3
      clear hd hr hbel hall hlt hS
      go_wp2_with fail
      obtain ⟨⟨z0, z1⟩, z2, z3⟩ := four_cells HR.out (.string S) (.string ⟨#[]⟩) (.int .i64 (-1)) (.bool false)
      refine bodyPost_ret (v := .tuple #[.agg #[.string S, .string ⟨#[]⟩, .int .i64 (-1), .bool false], .bool true]) (by simp [results, Tryd.results7, go_sem, z0, z1, z2, z3]) rfl ?_
      exact ⟨below_four HB.out (Nat.le_refl _) _ _ _ _, Or.inl ⟨HAL.out, by rw [HSS.out]⟩⟩
end Go.Proofs.YtbpaongnehgodaaDoor
