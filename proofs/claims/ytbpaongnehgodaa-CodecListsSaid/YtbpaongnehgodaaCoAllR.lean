/- The document's All, walked. -/
import Derived.Test.YtbpaongnehgodaaCoAllF
namespace Go.Proofs.Ytbpaongnehgodaa
open Go.ChangeShapes Go.WideShapes Go.ChangeAt Go.RowKit
theorem rall_full (ao : Option Addr) (n cap : Nat) (hn : 1024 < n) (hn2 : n ≤ 1000000) (w : World) :
    Calls Try.prog 16 #[.slice ao n cap] w (Ret (.tuple #[.string ⟨#[]⟩, .int .i64 6]) w) := by
  have d1 : decide (1024 < (n : Int)) = true := decide_eq_true (by omega)
  have d2 : decide (1024 < n) = true := decide_eq_true hn
  clear hn hn2
  go_enter Try.func16, Try.ntmps16
  go_wp2_with fail
  go_ret2
  exact ⟨rfl, by go_grown⟩
set_option maxHeartbeats 4000000 in
theorem rall_any (f : Nat → Cm) (hf : ∀ i, (f i).In) (ao : Option Addr) (n cap : Nat) (hn : n ≤ 1024) (w : World) (h : CmsAt w ao n f) :
    Calls Try.prog 16 #[.slice ao n cap] w (fun e w' => ∃ x, allA f n x ∧ Ret x w e w') := by
  have d1 : decide (1024 < (n : Int)) = false := decide_eq_false (by omega)
  have d2 : decide (1024 < n) = false := decide_eq_false (by omega)
  have hn2 : (n : Int) ≤ 1024 := by omega
  have HP := Lib.hid (fun k W => rput_any (f k) (hf k) W)
  have HRT := Lib.hid (fun k W => rright_any (f k) W)
  have HN := Lib.hid (refput_any (n : Int) (by omega) w)
  have HL0 : Hid ((encN (codeN (n : Int))).length ≤ 10) := encN_len (codeN_lt (by omega))
  have HFL := Lib.hid (flatB_len f hf)
  have HCM := Lib.hid h
  have HBC := Lib.hid (fun k => bytesC_len (f k) (hf k))
  obtain ⟨H0, hH0⟩ : ∃ H0, encN (codeN (n : Int)) = H0 := ⟨_, rfl⟩
  have HA : Hid ((upR f n → ∀ x, x = .tuple #[txt (H0 ++ flatB f n), .int .i64 0] → allA f n x) ∧ (¬ upR f n → ∀ x, x = .tuple #[.string ⟨#[]⟩, .int .i64 3] → allA f n x)) := by
    constructor
    · intro h x hx
      exact ⟨fun _ => by rw [hH0]; exact hx, fun h2 => absurd h h2⟩
    · intro h x hx
      exact ⟨fun h2 => absurd h2 h, fun _ => hx⟩
  rw [hH0] at HN HL0
  clear h hf hn hH0
  unfold txt at HN HP
  go_enter Try.func16, Try.ntmps16
  go_wp2_with fail
  refine HN.out.mono ?_
  rintro e w1 ⟨rfl, h1⟩
  have HB := Lib.hid h1
  clear h1
  go_wp2_with fail
  go_loopw [4, 5] (fun sv iv wr => ∃ k : Nat, k ≤ n ∧ iv = .int .i64 k ∧ sv = .string ⟨(H0 ++ flatB f k).toArray⟩ ∧ Below w.heap.size w wr ∧ upR f k) (fun _ iv _ => n - (intOf iv).toNat)
  case atStart => exact ⟨0, Nat.zero_le _, rfl, by rw [flatB, List.append_nil], HB.out, fun i hi => absurd hi (Nat.not_lt_zero i)⟩
  case round =>
    obtain ⟨k, hk, rfl, rfl, hbel, hup⟩ := hrel
    have hk2 : (k : Int) ≤ n := by omega
    by_cases hlt : k < n
    · have hlt2 : (k : Int) < n := by omega
      have HCR := Lib.hid (HCM.out.below hbel)
      obtain ⟨b, off, rfl, hblt, hcs⟩ := HCR.out (by omega)
      obtain ⟨c0, c1, c2, c3, c4, c5, c6⟩ := hcs k hlt
      have HPK := Lib.hid (HP.out k)
      have HRK := Lib.hid (HRT.out k)
      have HBK := Lib.hid (HBC.out k)
      have HFK := Lib.hid (HFL.out k)
      have HSU : Hid (flatB f (k + 1) = flatB f k ++ bytesC (f k)) := rfl
      have HB1 := Lib.hid hbel
      have HUP := Lib.hid hup
      have HLT := Lib.hid hlt
      cases hr : rightV (f k) with
      | true =>
        have HR := Lib.hid hr
        rw [hr] at HRK
        have HLN : Hid (H0 ++ flatB f (k + 1) = (H0 ++ flatB f k) ++ bytesC (f k)) := by show _ = _; rw [HSU.out, List.append_assoc]
        have hl1 : (H0 ++ flatB f k).length ≤ 1000000 := by
          have := HFK.out; have := HL0.out; have := HLT.out
          rw [List.length_append]; omega
        have hl2 := HBK.out
        have HCK : Hid (∀ w2, Below wr.heap.size wr w2 → w2.cell? ⟨b, off + k * 7, none⟩ = some (.int .i64 (f k).k) ∧ w2.cell? ⟨b, off + k * 7 + 1, none⟩ = some (.int .i64 (f k).i) ∧ w2.cell? ⟨b, off + k * 7 + 2, none⟩ = some (.int .i64 (f k).m) ∧ w2.cell? ⟨b, off + k * 7 + 3, none⟩ = some (.int .i64 (f k).o) ∧ w2.cell? ⟨b, off + k * 7 + 4, none⟩ = some (.int .i64 (f k).s) ∧ w2.cell? ⟨b, off + k * 7 + 5, none⟩ = some (.int .i64 (f k).q) ∧ w2.cell? ⟨b, off + k * 7 + 6, none⟩ = some (.int .i64 (f k).p)) := fun w2 hb => by
          obtain ⟨b', off', e, _, hcs'⟩ := HCR.out.below hb (by omega)
          injection e with e
          injection e with e1 e2
          subst e1 e2
          exact hcs' k hlt
        obtain ⟨c, hc⟩ : ∃ c, f k = c := ⟨_, rfl⟩
        rw [hc] at HPK hl2 HR HRK HCK HLN c0 c1 c2 c3 c4 c5 c6
        obtain ⟨B, hBB⟩ : ∃ B, bytesC c = B := ⟨_, rfl⟩
        rw [hBB] at HPK hl2 HLN
        obtain ⟨L, hL⟩ : ∃ L, H0 ++ flatB f k = L := ⟨_, rfl⟩
        rw [hL] at HLN hl1
        rw [hL]
        have hadd : ∀ W, (Op.stringOp .add ⟨L.toArray⟩ ⟨B.toArray⟩).run Try.prog W = .ok (.string ⟨(L ++ B).toArray⟩) W := fun W => run_string_add_lists (P := Try.prog) W L B (by omega) (by omega)
        clear hbel hup hr hBB hL hcs hblt hlt hl1 hl2
        go_wp2_with fail
        refine (HRK.out _).mono ?_
        rintro e w4 ⟨rfl, b4⟩
        have HB4 : Hid (Below w.heap.size w w4) := HB1.out.trans (b4.mono HB1.out.size)
        obtain ⟨k0, k1, k2, k3, k4, k5, k6⟩ := HCK.out w4 b4
        clear b4 c0 c1 c2 c3 c4 c5 c6
        go_wp2_with fail
        refine (HPK.out _).mono ?_
        rintro e w5 ⟨rfl, b5⟩
        have HB5 : Hid (Below w.heap.size w w5) := HB4.out.trans (b5.mono HB4.out.size)
        clear b5
        go_wp2_with fail
        go_roundw
        case rel => exact ⟨k + 1, by have := HLT.out; omega, by go_num, by rw [HLN.out], HB5.out, fun i hi => by
          rcases Nat.lt_or_ge i k with h | h
          · exact HUP.out i h
          · obtain rfl : i = k := by omega
            rw [hc]; exact HR.out⟩
        case measure => have := HLT.out; simp [intOf]; omega
      | false =>
        rw [hr] at HRK
        have HFIN := Lib.hid (HA.out.2 (fun hu => by have := hu k hlt; rw [hr] at this; cases this) _ rfl)
        obtain ⟨L, hL⟩ : ∃ L, H0 ++ flatB f k = L := ⟨_, rfl⟩
        rw [hL]
        obtain ⟨c, hc⟩ : ∃ c, f k = c := ⟨_, rfl⟩
        rw [hc] at HRK c0 c1 c2 c3 c4 c5 c6
        clear hbel hup hr hcs hblt hlt hc hL
        go_wp2_with fail
        refine (HRK.out _).mono ?_
        rintro e w4 ⟨rfl, b4⟩
        have HB4 : Hid (Below w.heap.size w w4) := HB1.out.trans (b4.mono HB1.out.size)
        clear b4
        go_wp2_with fail
        go_ret2
        exact ⟨_, HFIN.out, rfl, HB4.out⟩
    · have heq : k = n := by omega
      subst heq
      have hlt2 : ¬ ((k : Nat) : Int) < k := by omega
      have HFIN := Lib.hid (HA.out.1 hup _ rfl)
      obtain ⟨L, hL⟩ : ∃ L, H0 ++ flatB f k = L := ⟨_, rfl⟩
      rw [hL] at HFIN
      rw [hL]
      have HB1 := Lib.hid hbel
      clear hbel hup hL HA
      go_wp2_with fail
      go_ret2
      exact ⟨_, HFIN.out, rfl, HB1.out⟩
end Go.Proofs.Ytbpaongnehgodaa
