/- The document's Place and Order; package rank's Place and Rises. -/
import Derived.Test.YtncbieaobadekaaRankHelp
namespace Go.Proofs.Ytncbieaobadekaa
open Go.ChangeShapes Go.WideShapes Go.ChangeAt Go.RowKit
theorem drew_two {w wr : World} {nq : Nat} (h : ∃ q, wr = w.drewN q) : ∃ q, wr.drewN nq = w.drewN q := by
  obtain ⟨q, e⟩ := h
  exact ⟨q + nq, by rw [e, World.drewN_drewN]⟩
set_option maxHeartbeats 2000000 in
theorem refplace_any (K : Nat → Key) (n cap at_ : Nat) (ao : Option Addr) (hn : n ≤ 1000000) (ha : at_ < n) (w : World) (h : KeysAt w ao n K) :
    Calls Try.prog 44 #[.slice ao n cap, .int .i64 at_] w (RetQ (.int .i64 (placeL (ordLt K) n at_ : Nat)) w) := by
  have n1 : (n : Int) ≤ 1000000 := by omega
  have a1 : (at_ : Int) < n := by omega
  obtain ⟨b, off, rfl, hlt, hc⟩ := h.2 (by omega)
  have HC := Lib.hid hc
  have HA := Lib.hid ha
  have HP : Hid (∀ q k, k < n → Calls Try.prog 38 #[(K k).val, (K at_).val] (w.drewN q) (RetQ (.int .i64 (cmpK (K k) (K at_))) (w.drewN q))) := fun q k hk => by
    have := refcmp_any (K k).z (K at_).z (K k).n (K k).cap (K at_).n (K at_).cap (K k).ao (K at_).ao (h.1 k hk).1 (h.1 at_ ha).1 (w.drewN q) (h.1 k hk).2 (h.1 at_ ha).2
    rwa [cmpK_Z] at this
  have HB : Hid (∀ k, placeL (ordLt K) k at_ ≤ k) := fun k => placeL_le _ _ _
  clear h hn ha hlt hc
  go_enter Try.func44, Try.ntmps44
  go_wp2_with fail
  go_loopw [5, 6] (fun nv iv wr => ∃ k : Nat, k ≤ n ∧ iv = .int .i64 (k : Nat) ∧ nv = .int .i64 (placeL (ordLt K) k at_ : Nat) ∧ (∃ q, wr = w.drewN q)) (fun _ iv _ => n - (intOf iv).toNat)
  case atStart => exact ⟨0, Nat.zero_le _, rfl, rfl, 0, rfl⟩
  case round =>
    obtain ⟨k, hk, rfl, rfl, hq⟩ := hrel
    have HQ := Lib.hid hq
    have hk2 : (k : Int) ≤ n := by omega
    by_cases hlt : k < n
    · have c1 : wr.cell? ⟨b, off + k, none⟩ = some (K k).val := by
        obtain ⟨q, rfl⟩ := hq
        exact HC.out k hlt
      have c2 : wr.cell? ⟨b, off + at_, none⟩ = some (K at_).val := by
        obtain ⟨q, rfl⟩ := hq
        exact HC.out at_ HA.out
      have HCC : Hid (∀ q : Nat, Calls Try.prog 38 #[(K k).val, (K at_).val] (wr.drewN q) (fun e w' => e = .returned (.int .i64 (cmpK (K k) (K at_))) ∧ ∃ k, w' = (wr.drewN q).drewN k)) := fun q => by
        obtain ⟨q0, rfl⟩ := hq
        rw [World.drewN_drewN]
        exact HP.out _ k hlt
      have hlt2 : (k : Int) < n := by omega
      have hpk := HB.out k
      have hps := placeL_succ (ordLt K) k at_
      obtain ⟨p, hp⟩ : ∃ p, p = placeL (ordLt K) k at_ := ⟨_, rfl⟩
      rw [← hp] at hpk hps ⊢
      have hp2 : (p : Int) ≤ n := by omega
      have HL := Lib.hid hlt
      clear hq hp hpk hlt
      have key := ordLt_iff K k at_
      rcases (show cmpK (K k) (K at_) < 0 ∨ (cmpK (K k) (K at_) = 0 ∧ k < at_) ∨ (cmpK (K k) (K at_) = 0 ∧ ¬ k < at_) ∨ 0 < cmpK (K k) (K at_) by omega) with hz | ⟨hz, hz2⟩ | ⟨hz, hz2⟩ | hz
      · have e1 : ordLt K k at_ = true := key.2 (Or.inl hz)
        rw [e1] at hps
        have HS := Lib.hid hps
        obtain ⟨r, hr⟩ : ∃ r, r = cmpK (K k) (K at_) := ⟨_, rfl⟩
        rw [← hr] at HCC hz
        have d1 : decide (r < 0) = true := decide_eq_true hz
        clear hps e1 key hr hz
        generalize (K k).val = u at *
        generalize (K at_).val = v at *
        go_wp2_with fail
        go_quiet ((go_at_call 38; exact Calls.quiet_of (HCC.out _)))
        go_wp2
        go_roundw
        case rel => exact ⟨k + 1, HL.out, by go_num, by rw [HS.out]; go_num, drew_two HQ.out⟩
        case measure => have := HL.out; simp [intOf]; omega
      · have e1 : ordLt K k at_ = true := key.2 (Or.inr ⟨hz, hz2⟩)
        rw [e1] at hps
        have HS := Lib.hid hps
        rw [hz] at HCC
        have d2 : decide ((k : Int) < (at_ : Int)) = true := decide_eq_true (by omega)
        have d3 : decide (k < at_) = true := decide_eq_true hz2
        clear hps e1 key hz hz2
        generalize (K k).val = u at *
        generalize (K at_).val = v at *
        go_wp2_with fail
        go_quiet ((go_at_call 38; exact Calls.quiet_of (HCC.out _)))
        go_wp2
        go_roundw
        case rel => exact ⟨k + 1, HL.out, by go_num, by rw [HS.out]; go_num, drew_two HQ.out⟩
        case measure => have := HL.out; simp [intOf]; omega
      · have e1 : ordLt K k at_ = false := by
          cases hh : ordLt K k at_
          · rfl
          · have := key.1 hh; omega
        rw [e1] at hps
        have HS := Lib.hid hps
        rw [hz] at HCC
        have d2 : decide ((k : Int) < (at_ : Int)) = false := decide_eq_false (by omega)
        have d3 : decide (k < at_) = false := decide_eq_false hz2
        clear hps e1 key hz hz2
        generalize (K k).val = u at *
        generalize (K at_).val = v at *
        go_wp2_with fail
        go_quiet ((go_at_call 38; exact Calls.quiet_of (HCC.out _)))
        go_wp2
        go_roundw
        case rel => exact ⟨k + 1, HL.out, by go_num, by rw [HS.out]; go_num, drew_two HQ.out⟩
        case measure => have := HL.out; simp [intOf]; omega
      · have e1 : ordLt K k at_ = false := by
          cases hh : ordLt K k at_
          · rfl
          · have := key.1 hh; omega
        rw [e1] at hps
        have HS := Lib.hid hps
        obtain ⟨r, hr⟩ : ∃ r, r = cmpK (K k) (K at_) := ⟨_, rfl⟩
        rw [← hr] at HCC hz
        have d1 : decide (r < 0) = false := decide_eq_false (by omega)
        have d2 : (r == 0) = false := by rw [beq_eq_false_iff_ne]; omega
        clear hps e1 key hr hz
        generalize (K k).val = u at *
        generalize (K at_).val = v at *
        go_wp2_with fail
        go_quiet ((go_at_call 38; exact Calls.quiet_of (HCC.out _)))
        go_wp2
        go_roundw
        case rel => exact ⟨k + 1, HL.out, by go_num, by rw [HS.out]; go_num, drew_two HQ.out⟩
        case measure => have := HL.out; simp [intOf]; omega
    · obtain rfl : k = n := by omega
      clear hq
      go_wp2
      go_ret
      exact ⟨rfl, HQ.out⟩
end Go.Proofs.Ytncbieaobadekaa
