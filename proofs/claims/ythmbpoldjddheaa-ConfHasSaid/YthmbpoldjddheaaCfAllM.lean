/- all, ContainsFunc and IndexFunc over compline/api.Member (made by gen_cf1.py). -/
import Derived.Test.YthmbpoldjddheaaCfBase
namespace Go.Proofs.Ythmbpoldjddheaa
open Go.ChangeShapes Go.WideShapes Go.ChangeAt Go.RowKit
theorem all1M (a b : Int) (g : Nat) (w : World) (h : w.heap[g]? = some (.cells #[.func (.func 81) #[] #[]] 124 (0, 0))) :
    Calls Try.prog 97 #[.agg #[.int .i64 a, .int .i64 b], .pointer (some ⟨g, 0, none⟩)] w (Ret (.bool (!mMay a b)) w) := by
  have HM := Lib.hid (fun W => membermay_any a b W)
  have k0 : w.cell? ⟨g, 0, none⟩ = some (.func (.func 81) #[] #[]) := by simp [World.cell?, h]
  have hg : g < w.heap.size := lt_of_block h
  have kA : (w.alloc (.cells #[.int .i64 a, .int .i64 b] 77)).cell? ⟨g, 0, none⟩ = some (.func (.func 81) #[] #[]) := by simp [World.cell?, keepA h]
  clear h
  obtain ⟨m, hm⟩ : ∃ m, mMay a b = m := ⟨_, rfl⟩
  rw [hm] at HM ⊢
  clear hm
  go_enter Try.func97, Try.ntmps97
  go_wp2_with fail
  refine (HM.out _).mono ?_
  rintro e w1 ⟨rfl, h1⟩
  have HB := Lib.hid (belowB h1)
  clear h1 k0 kA
  go_wp2_with fail
  go_ret
  exact ⟨rfl, HB.out⟩
theorem indexM (a b : Nat → Int) (n cap : Nat) (ao : Option Addr) (hn : n ≤ 1000) (g : Nat) (w : World) (h : Two w ao n a b) (hg : w.heap[g]? = some (.cells #[.func (.func 81) #[] #[]] 124 (0, 0))) :
    Calls Try.prog 103 #[.slice ao n cap, .func (.func 97) #[] #[.pointer (some ⟨g, 0, none⟩)]] w (fun e w' => Below w.heap.size w w' ∧ ∃ r : Int, e = .returned (.int .i64 r) ∧ ((r = -1 ∧ ∀ i, i < n → mMay (a i) (b i) = true) ∨ (0 ≤ r ∧ ∃ i, i < n ∧ mMay (a i) (b i) = false))) := by
  have hn2 : (n : Int) ≤ 1000 := by omega
  have H := Lib.hid h
  have HG := Lib.hid hg
  clear h hn hg
  go_enter Try.func103, Try.ntmps103
  go_wp2_with fail
  go_loopw [8] (fun iv wr => ∃ k : Nat, k ≤ n ∧ iv = .int .i64 (k : Nat) ∧ Hid (Below w.heap.size w wr) ∧ (∀ i, i < k → mMay (a i) (b i) = true)) (fun iv _ => n - (intOf iv).toNat)
  case atStart => exact ⟨0, Nat.zero_le _, rfl, Below.refl _ _, fun i hi => by omega⟩
  case round =>
    obtain ⟨k, hk, rfl, HB, hlo⟩ := hrel
    have hk2 : (k : Int) ≤ n := by omega
    have HLO := Lib.hid hlo
    clear hlo
    by_cases hlt : k < n
    · have hlt2 : (k : Int) < n := by omega
      obtain ⟨bb, off, rfl, hb, hc⟩ := (H.out.below HB.out) (by omega)
      obtain ⟨c0, c1⟩ := hc k hlt
      have HX := Lib.hid (all1M (a k) (b k) g wr (keepB HG.out HB.out))
      have HL := Lib.hid hlt
      clear hc hb hlt hk
      cases hm : mMay (a k) (b k) with
      | false =>
        rw [hm] at HX
        have HMM := Lib.hid hm
        clear hm
        obtain ⟨x, hx⟩ : ∃ x, a k = x := ⟨_, rfl⟩
        obtain ⟨y, hy⟩ : ∃ y, b k = y := ⟨_, rfl⟩
        rw [hx] at c0 HX
        rw [hy] at c1 HX
        clear hx hy
        go_wp2_with fail
        refine HX.out.mono ?_
        rintro e w1 ⟨rfl, h1⟩
        have HB2 := Lib.hid (HB.out.trans (h1.mono HB.out.size))
        clear h1 HX
        go_wp2_with fail
        go_ret
        exact ⟨HB2.out, _, rfl, Or.inr ⟨by omega, k, HL.out, HMM.out⟩⟩
      | true =>
        rw [hm] at HX
        have HMM := Lib.hid hm
        clear hm
        obtain ⟨x, hx⟩ : ∃ x, a k = x := ⟨_, rfl⟩
        obtain ⟨y, hy⟩ : ∃ y, b k = y := ⟨_, rfl⟩
        rw [hx] at c0 HX
        rw [hy] at c1 HX
        clear hx hy
        go_wp2_with fail
        refine HX.out.mono ?_
        rintro e w1 ⟨rfl, h1⟩
        have HB2 := Lib.hid (HB.out.trans (h1.mono HB.out.size))
        clear h1 HX
        go_wp2_with fail
        go_roundw
        case rel => exact ⟨k + 1, HL.out, by go_num, HB2.out, fun i hi => by
          by_cases hik : i = k
          · rw [hik]; exact HMM.out
          · exact HLO.out i (by omega)⟩
        case measure => have := HL.out; simp [intOf]; omega
    · obtain rfl : k = n := by omega
      clear hlt hk hk2
      go_wp2_with fail
      go_ret
      exact ⟨HB.out, _, rfl, Or.inl ⟨rfl, HLO.out⟩⟩
theorem containsM (a b : Nat → Int) (n cap : Nat) (ao : Option Addr) (hn : n ≤ 1000) (g : Nat) (w : World) (h : Two w ao n a b) (hg : w.heap[g]? = some (.cells #[.func (.func 81) #[] #[]] 124 (0, 0))) :
    Calls Try.prog 96 #[.slice ao n cap, .func (.func 97) #[] #[.pointer (some ⟨g, 0, none⟩)]] w (Ret (.bool (!allB n (fun i => mMay (a i) (b i)))) w) := by
  have HI := Lib.hid (indexM a b n cap ao hn g w h hg)
  clear h hn hg
  have key : (allB n (fun i => mMay (a i) (b i)) = true ∧ ∀ i, i < n → mMay (a i) (b i) = true) ∨ (allB n (fun i => mMay (a i) (b i)) = false ∧ ∃ i, i < n ∧ mMay (a i) (b i) = false) := by
    by_cases hall : ∀ i, i < n → mMay (a i) (b i) = true
    · exact Or.inl ⟨decide_eq_true hall, hall⟩
    · refine Or.inr ⟨decide_eq_false hall, Classical.byContradiction fun hno => hall fun i hi => ?_⟩
      cases hm : mMay (a i) (b i) with
      | true => rfl
      | false => exact absurd ⟨i, hi, hm⟩ hno
  rcases key with ⟨e1, k1⟩ | ⟨e1, k1⟩
  · rw [e1]
    have HK := Lib.hid k1
    clear e1 k1
    go_enter Try.func96, Try.ntmps96
    go_wp2_with fail
    refine HI.out.mono ?_
    rintro e w1 ⟨hb, r, rfl, hr⟩
    have HB := Lib.hid hb
    clear hb
    rcases hr with ⟨rfl, hr⟩ | ⟨h0, i, hi, hf⟩
    · clear hr
      go_wp2_with fail
      go_ret
      exact ⟨rfl, HB.out⟩
    · rw [HK.out i hi] at hf
      cases hf
  · rw [e1]
    have HK := Lib.hid k1
    clear e1 k1
    go_enter Try.func96, Try.ntmps96
    go_wp2_with fail
    refine HI.out.mono ?_
    rintro e w1 ⟨hb, r, rfl, hr⟩
    have HB := Lib.hid hb
    clear hb
    rcases hr with ⟨rfl, hr⟩ | ⟨h0, hr⟩
    · obtain ⟨i, hi, hf⟩ := HK.out
      rw [hr i hi] at hf
      cases hf
    · have g0 : decide (0 ≤ r) = true := decide_eq_true h0
      clear hr
      go_wp2_with fail
      go_ret
      exact ⟨rfl, HB.out⟩
theorem allM (a b : Nat → Int) (n cap : Nat) (ao : Option Addr) (hn : n ≤ 1000) (w : World) (h : Two w ao n a b) :
    Calls Try.prog 80 #[.slice ao n cap, .func (.func 81) #[] #[]] w (Ret (.bool (allB n (fun i => mMay (a i) (b i)))) w) := by
  have HC := Lib.hid (containsM a b n cap ao hn w.heap.size (w.alloc (.cells #[.func (.func 81) #[] #[]] 124)) (h.below ((Below.refl _ _).alloc (Nat.le_refl _) _)) (heap_alloc_new _ _))
  obtain ⟨m, hm⟩ : ∃ m, allB n (fun i => mMay (a i) (b i)) = m := ⟨_, rfl⟩
  rw [hm] at HC ⊢
  clear h hn hm
  go_enter Try.func80, Try.ntmps80
  go_wp2_with fail
  refine HC.out.mono ?_
  rintro e w1 ⟨rfl, h1⟩
  have HB := Lib.hid (belowB h1)
  clear h1 HC
  go_wp2_with fail
  go_ret
  exact ⟨rfl, by simpa using HB.out⟩
end Go.Proofs.Ythmbpoldjddheaa
