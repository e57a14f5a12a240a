/- The document's Put. -/
import Derived.Test.YtbpaongnehgodaaCoRight
namespace Go.Proofs.Ytbpaongnehgodaa
open Go.ChangeShapes Go.WideShapes Go.ChangeAt Go.RowKit
/-- The first numbers of a command, by its letters. -/
def numsL (c : Cm) (L : List UInt8) (j : Nat) : List Int := c.k :: (L.take j).map (fun x => valL c x.toNat)
theorem numsL_succ (c : Cm) (L : List UInt8) (j : Nat) (h : j < L.length) : numsL c L (j + 1) = numsL c L j ++ [valL c (L[j]).toNat] := by
  unfold numsL
  rw [← List.take_append_getElem h, List.map_append, List.cons_append]
  rfl
theorem valL_in (c : Cm) (hc : c.In) (x : Nat) : -9223372036854775808 ≤ valL c x ∧ valL c x ≤ 9223372036854775807 := by
  obtain ⟨_, h1, h2, h3, h4, h5, h6⟩ := hc
  unfold valL
  split
  · exact h1
  · split
    · exact h2
    · split
      · exact h3
      · split
        · exact h4
        · split
          · exact h5
          · exact h6
theorem encL_len {l : List Int} (h : ∀ n, n ∈ l → -9223372036854775808 ≤ n ∧ n ≤ 9223372036854775807) : (encL l).length ≤ 10 * l.length := by
  induction l with
  | nil => simp [encL]
  | cons a l ih =>
    have h1 := ih (fun n hn => h n (List.mem_cons_of_mem _ hn))
    have h2 := encN_len (codeN_lt (h a (List.mem_cons_self ..)))
    simp only [encL, List.length_append, List.length_cons]
    omega
theorem numsL_in (c : Cm) (hc : c.In) (L : List UInt8) (j : Nat) : ∀ n, n ∈ numsL c L j → -9223372036854775808 ≤ n ∧ n ≤ 9223372036854775807 := fun n hn => by
  unfold numsL at hn
  rcases List.mem_cons.1 hn with rfl | h
  · exact hc.1
  · obtain ⟨x, _, rfl⟩ := List.mem_map.1 h
    exact valL_in c hc _
set_option maxHeartbeats 4000000 in
theorem rput_in (c : Cm) (hc : c.In) (L : List UInt8) (hL : L.length ≤ 10) (hH : ∀ W, Calls Try.prog 26 #[.int .i64 c.k] W (Ret (txt L) W)) (w : World) :
    Calls Try.prog 13 #[cmv c] w (Ret (txt (encL (numsL c L L.length))) w) := by
  have HH := Lib.hid hH
  have HP := Lib.hid (fun n hn W => refput_any n hn W)
  have HVL := Lib.hid (fun j (h : j < L.length) W => rvalue_any c (L[j]).toNat W)
  have HVP := Lib.hid (fun j (h : j < L.length) W => refput_any (valL c (L[j]).toNat) (valL_in c hc _) W)
  have HKP := Lib.hid (fun W => refput_any c.k hc.1 W)
  have hn : (L.length : Int) ≤ 10 := by omega
  have hs : ByteArray.size ⟨L.toArray⟩ = L.length := rfl
  have HS := Lib.hid (fun j (h : j < L.length) => congrArg encL (numsL_succ c L j h))
  have HLN := Lib.hid (fun j => encL_len (numsL_in c hc L j))
  have HLJ : Hid (∀ j, (numsL c L j).length ≤ 11) := fun j => by unfold numsL; simp; omega
  have HCL := Lib.hid (fun x => encN_len (codeN_lt (valL_in c hc x)))
  have H0 : Hid (encL (numsL c L 0) = encN (codeN c.k)) := by show _ = _; simp [numsL, encL]
  clear hH hL hc
  unfold txt at HH HP HVP HKP ⊢
  go_enter Try.func13, Try.ntmps13
  go_wp2_with fail
  refine (HKP.out _).mono ?_
  rintro e w1 ⟨rfl, h1⟩
  have x1 : CB w1 w.heap.size c := box_of_below h1
  have b1 := below_of_box h1
  obtain ⟨k0, k1, k2, k3, k4, k5, k6⟩ := x1.cells
  have B1 := Lib.hid b1
  have X1 := Lib.hid x1
  clear h1 b1 x1
  go_wp2_with fail
  refine (HH.out _).mono ?_
  rintro e w2 ⟨rfl, h2⟩
  have x2 : CB w2 w.heap.size c := (h2.block _ (lt_of_block X1.out)).trans X1.out
  have B2 : Hid (Below w.heap.size w w2) := B1.out.trans (h2.mono B1.out.size)
  have X2 := Lib.hid x2
  clear h2 x2 k0 k1 k2 k3 k4 k5 k6
  go_wp2_with fail
  go_loopw [3, 5] (fun sv iv wr => ∃ j : Nat, j ≤ L.length ∧ iv = .int .i64 j ∧ sv = .string ⟨(encL (numsL c L j)).toArray⟩ ∧ CB wr w.heap.size c ∧ Below w.heap.size w wr) (fun _ iv _ => L.length - (intOf iv).toNat)
  case atStart => exact ⟨0, Nat.zero_le _, rfl, by rw [H0.out], X2.out, B2.out⟩
  case round =>
    obtain ⟨j, hj, rfl, rfl, hcb, hbel⟩ := hrel
    have hj2 : (j : Int) ≤ L.length := by omega
    by_cases hlt : j < L.length
    · have hlt2 : (j : Int) < L.length := by omega
      have HSJ := Lib.hid (HS.out j hlt)
      rw [encL_append] at HSJ
      obtain ⟨k0, k1, k2, k3, k4, k5, k6⟩ := hcb.cells
      have hl1 := HLN.out j
      have hl2 := HLJ.out j
      have hl3 := HCL.out (L[j]).toNat
      have HVJ : Hid (∀ W, Calls Try.prog 33 #[cmv c, .int .u8 ((((⟨L.toArray⟩ : ByteArray)[j]'hlt).toNat : Nat) : Int)] W (Ret (.int .i64 (valL c (L[j]).toNat)) W)) := HVL.out j hlt
      have HPJ := Lib.hid (HVP.out j hlt)
      obtain ⟨A, hA⟩ : ∃ A, encL (numsL c L j) = A := ⟨_, rfl⟩
      obtain ⟨D, hD⟩ : ∃ D, valL c (L[j]).toNat = D := ⟨_, rfl⟩
      rw [hD] at HVJ HPJ HSJ hl3
      rw [hA] at HSJ hl1 ⊢
      obtain ⟨E, hE⟩ : ∃ E, encN (codeN D) = E := ⟨_, rfl⟩
      have hE2 : encL [D] = E := by simp [encL, hE]
      rw [hE2] at HSJ
      rw [hE] at HPJ hl3
      have hadd : ∀ W, (Op.stringOp .add ⟨A.toArray⟩ ⟨E.toArray⟩).run Try.prog W = .ok (.string ⟨(A ++ E).toArray⟩) W := fun W => run_string_add_lists (P := Try.prog) W A E (by omega) (by omega)
      have HCB := Lib.hid hcb
      have HBL := Lib.hid hbel
      clear hcb hbel hA hD hE hE2 hl1 hl2 hl3
      go_wp2_with fail
      go_region_with (first | (go_at_call 33; refine (HVJ.out _).mono ?_; rintro e w3 ⟨rfl, h3⟩; (have c3 : CB w3 w.heap.size c := (h3.block _ (lt_of_block HCB.out)).trans HCB.out); obtain ⟨p0, p1, p2, p3, p4, p5, p6⟩ := c3.cells; (have HC3 := Lib.hid c3); (have HB3 : Hid (Below w.heap.size w w3) := HBL.out.trans (((Below.refl wr.heap.size wr).drew.trans h3).mono HBL.out.size)); clear h3 c3) | (go_at_call 32; refine (HPJ.out _).mono ?_; rintro e w4 ⟨rfl, h4⟩; (have c4 : CB w4 w.heap.size c := (h4.block _ (lt_of_block HC3.out)).trans HC3.out); obtain ⟨t0, t1, t2, t3, t4, t5, t6⟩ := c4.cells; (have HC4 := Lib.hid c4); (have HB4 : Hid (Below w.heap.size w w4) := HB3.out.trans (h4.mono HB3.out.size)); clear h4 c4))
      all_goals
        go_wp2_with fail
        go_roundw
        case rel => exact ⟨j + 1, by omega, by go_num, by rw [HSJ.out], HC4.out, HB4.out⟩
        case measure => simp [intOf]; omega
    · have heq : j = L.length := by omega
      subst heq
      have hlt2 : ¬ ((L.length : Nat) : Int) < L.length := by omega
      have HBL := Lib.hid hbel
      clear hcb hbel
      go_wp2_with fail
      go_ret
      exact ⟨rfl, HBL.out⟩
end Go.Proofs.Ytbpaongnehgodaa
