/- Package share: Lost. -/
import Derived.Test.YtncbieaobadekaaShareRow
import Derived.Test.YtncbieaobadekaaShareLost
namespace Go.Proofs.Ytncbieaobadekaa
open Go.ChangeShapes Go.WideShapes Go.ChangeAt Go.RowKit
def Fits (z y : Nat → Int) (n m : Nat) : Prop := n = m ∧ ∀ i, i < n → 0 ≤ y i ∧ y i ≤ z i
def LostP (z y : Nat → Int) (n m : Nat) (w : World) (e : Ending) (w' : World) : Prop := Below w.heap.size w w' ∧
  (Fits z y n m ∧ (∃ g, w.heap.size ≤ g ∧ e = .returned (.tuple #[.slice (some ⟨g, 0, none⟩) n n, .int .i64 0]) ∧ RowI w' g n (fun i => z i - y i)) ∨ ¬ Fits z y n m ∧ e = .returned (.tuple #[.slice none 0 0, .int .i64 1]))
theorem lost_any (z y : Nat → Int) (n cap m cap' : Nat) (ao bo : Option Addr) (hn : n ≤ 1000000) (hm : m ≤ 1000000) (hz : ∀ i, i < n → -9223372036854775808 ≤ z i ∧ z i ≤ 9223372036854775807) (w : World) (h1 : IntsAt w ao n z) (h2 : IntsAt w bo m y) :
    Calls Try.prog 21 #[.slice ao n cap, .slice bo m cap'] w (LostP z y n m w) := by
  have hn2 : (n : Int) ≤ 1000000 := by omega
  have hm2 : (m : Int) ≤ 1000000 := by omega
  have H1 := Lib.hid h1
  have H2 := Lib.hid h2
  have HZ := Lib.hid hz
  by_cases hnm : n = m
  case neg =>
    have b1 : ((n : Int) != (m : Int)) = true := by rw [bne_iff_ne]; omega
    have HF : Hid (¬ Fits z y n m) := fun hf => hnm hf.1
    clear h1 h2 hz hnm hn hm
    go_enter Try.func21, Try.ntmps21
    go_wp2
    go_ret2
    exact ⟨by go_grown, Or.inr ⟨HF.out, rfl⟩⟩
  subst hnm
  have HA := Lib.hid (fun (w : World) h => anyBelow_any y n cap' bo hm w h)
  have mk := makeI n hn
  have b1 : ((n : Int) != (n : Int)) = false := by simp
  clear hn hm h1 h2 hz
  go_enter Try.func21, Try.ntmps21
  go_wp2_with fail
  refine (HA.out _ H2.out).mono ?_
  rintro e w1 ⟨rfl, b, rfl, hb⟩
  cases b
  case true =>
    have HF : Hid (¬ Fits z y n n) := fun hf => by
      obtain ⟨i, hi, hneg⟩ := hb.1 rfl
      have := (hf.2 i hi).1
      omega
    clear hb mk
    go_wp2
    go_ret2
    exact ⟨by go_grown, Or.inr ⟨HF.out, rfl⟩⟩
  case false =>
    have HB : Hid (∀ i, i < n → 0 ≤ y i) := fun i hi => Int.not_lt.1 fun hneg => by
      have := hb.2 ⟨i, hi, hneg⟩
      simp at this
    clear hb
    go_wp2_with fail
    clear mk
    go_loopw [23] (fun iv wr => ∃ k : Nat, k ≤ n ∧ iv = .int .i64 (k : Nat) ∧ Below w.heap.size w wr ∧ (∀ i, i < k → y i ≤ z i) ∧ RowI wr w.heap.size n (fun i => if i < k then z i - y i else 0)) (fun iv _ => n - (intOf iv).toNat)
    case atStart => exact ⟨0, Nat.zero_le _, rfl, by go_grown, fun i hi => by omega, (RowI.made w n).congr fun i _ => by rw [if_neg (by omega)]⟩
    case round =>
      obtain ⟨k, hk, rfl, hbel, hlo, hrow⟩ := hrel
      have hk2 : (k : Int) ≤ n := by omega
      have HLO := Lib.hid hlo
      have HBel := Lib.hid hbel
      have HW := Lib.hid hrow
      clear hlo hbel
      by_cases hlt : k < n
      · obtain ⟨b, off, rfl, hb, hc⟩ := H1.out (by omega)
        obtain ⟨b', off', rfl, hb', hc'⟩ := H2.out (by omega)
        have c1 := (HBel.out.cell (by exact hb)).trans (hc k hlt)
        have c2 := (HBel.out.cell (by exact hb')).trans (hc' k hlt)
        have c3 := hrow.cell k hlt
        have e3 := hrow.free k
        have y0 := HB.out k hlt
        have zb := (HZ.out k hlt).2
        have HS := Lib.hid (fun (x : Int) => hrow.store k x)
        clear hc hc' hrow
        by_cases hle : z k < y k
        · have HF : Hid (¬ Fits z y n n) := fun hf => by
            have := (hf.2 k hlt).2
            omega
          have d := decide_eq_true hle
          clear hle y0 zb
          generalize y k = u at *
          generalize z k = x at *
          go_wp2_with fail
          go_ret2
          exact ⟨HBel.out, Or.inr ⟨HF.out, rfl⟩⟩
        · have d := decide_eq_false hle
          have HK := Lib.hid (Int.not_lt.1 hle)
          have x1 := HK.out
          obtain ⟨u, hu⟩ : ∃ u, y k = u := ⟨_, rfl⟩
          obtain ⟨x, hx⟩ : ∃ x, z k = x := ⟨_, rfl⟩
          have HU := Lib.hid hu
          have HX := Lib.hid hx
          rw [hu] at c2 d y0 x1
          rw [hx] at c1 d zb x1
          clear hle hu hx
          go_wp2_with fail
          go_roundw
          case rel =>
            refine ⟨k + 1, by omega, by go_num, HBel.out.setCell (Nat.le_refl _) _, fun i hi => ?_, (HS.out (x - u)).congr fun i hi => ?_⟩
            · by_cases hik : i = k
              · rw [hik]; exact HK.out
              · exact HLO.out i (by omega)
            · unfold put
              by_cases hik : i = k
              · rw [if_pos hik, if_pos (by omega), hik, HU.out, HX.out]
              · rw [if_neg hik]
                dsimp only
                by_cases hlk : i < k
                · rw [if_pos hlk, if_pos (by omega)]
                · rw [if_neg hlk, if_neg (by omega)]
          case measure => simp [intOf]; omega
      · obtain rfl : k = n := by omega
        clear hrow hlt
        go_wp2_with fail
        go_ret2
        exact ⟨HBel.out, Or.inl ⟨⟨rfl, fun i hi => ⟨HB.out i hi, HLO.out i hi⟩⟩, w.heap.size, Nat.le_refl _, rfl, HW.out.congr fun i hi => by rw [if_pos hi]⟩⟩
end Go.Proofs.Ytncbieaobadekaa
