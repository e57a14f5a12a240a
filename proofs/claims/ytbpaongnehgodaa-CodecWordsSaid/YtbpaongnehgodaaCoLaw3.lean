/- CodecWords, walked. -/
import Derived.Test.YtbpaongnehgodaaCoTop
namespace Go.Proofs.Ytbpaongnehgodaa
open Go.ChangeShapes Go.WideShapes Go.ChangeAt Go.RowKit
/-- The kind of a word is n; 0, if there is none. -/
def IsKind (a : ByteArray) (n : Nat) : Prop := n ≤ 10 ∧ ∀ j, 1 ≤ j → j ≤ 10 → (wordN j = a ↔ j = n)
theorem kind_of (a : ByteArray) : ∃ n, IsKind a n := by
  by_cases h : ∃ n, 1 ≤ n ∧ n ≤ 10 ∧ wordN n = a
  · obtain ⟨n, h1, h2, rfl⟩ := h
    refine ⟨n, h2, fun j k1 k2 => ⟨fun e => ?_, fun e => by rw [e]⟩⟩
    have key : ∀ x, x < 11 → ∀ y, y < 11 → 1 ≤ x → 1 ≤ y → wordN x = wordN y → x = y := by decide +kernel
    exact key j (by omega) n (by omega) k1 h1 e
  · exact ⟨0, by decide, fun j k1 k2 => ⟨fun e => absurd ⟨j, k1, k2, e⟩ h, fun e => by omega⟩⟩
theorem str_beq (x a : ByteArray) : (x.toList == a.toList) = decide (x = a) := by
  by_cases h : x = a
  · subst h; simp
  · rw [decide_eq_false h, beq_eq_false_iff_ne]
    exact fun e => h (bytes_inj (by rw [← ByteArray.toList_eq, ← ByteArray.toList_eq]; exact e))
set_option maxHeartbeats 2000000 in
theorem kindw_any (a : ByteArray) (n : Nat) (h : IsKind a n) (w : World) :
    Calls Try.prog 20 #[.string a] w (Ret (.tuple #[.int .i64 (n : Int), .bool (decide (0 < n))]) w) := by
  obtain ⟨h1, h2⟩ := h
  have HW := Lib.hid (fun k (hk : 1 ≤ k ∧ k ≤ 10) W => word_in k hk W)
  have HQ := Lib.hid (fun k => str_beq (wordN k) a)
  have H2 := Lib.hid h2
  clear h2
  go_enter Try.func20, Try.ntmps20
  go_wp2_with fail
  go_loopw [4] (fun iv wr => ∃ k : Nat, 1 ≤ k ∧ k ≤ 11 ∧ iv = .int .i64 k ∧ (1 ≤ n → k ≤ n) ∧ Below w.heap.size w wr) (fun iv _ => 11 - (intOf iv).toNat)
  case atStart => exact ⟨1, by omega, by omega, rfl, fun h => h, by go_grown⟩
  case round =>
    obtain ⟨k, hk1, hk2, rfl, hkn, hbel⟩ := hrel
    have HB := Lib.hid hbel
    clear hbel
    by_cases hk : k ≤ 10
    · have dk : decide ((k : Int) ≤ 10) = true := decide_eq_true (by omega)
      have dk' : decide (k ≤ 10) = true := decide_eq_true hk
      have hk3 : (k : Int) ≤ 10 := by omega
      have HWK := Lib.hid (HW.out k ⟨hk1, hk⟩)
      have hq := HQ.out k
      by_cases he : k = n
      · subst he
        rw [decide_eq_true ((H2.out k hk1 hk).2 rfl)] at hq
        have d0 : decide (0 < k) = true := decide_eq_true (by omega)
        rw [d0]
        obtain ⟨x, hx⟩ : ∃ x, wordN k = x := ⟨_, rfl⟩
        rw [hx] at HWK hq
        clear hx
        go_wp2_with fail
        refine (HWK.out _).mono ?_
        rintro e w2 ⟨rfl, b2⟩
        have HB2 : Hid (Below w.heap.size w w2) := HB.out.trans (b2.mono HB.out.size)
        clear b2
        go_wp2_with fail
        go_ret2
        exact ⟨rfl, HB2.out⟩
      · rw [decide_eq_false (fun e => he ((H2.out k hk1 hk).1 e))] at hq
        obtain ⟨x, hx⟩ : ∃ x, wordN k = x := ⟨_, rfl⟩
        rw [hx] at HWK hq
        clear hx
        go_wp2_with fail
        refine (HWK.out _).mono ?_
        rintro e w2 ⟨rfl, b2⟩
        have HB2 : Hid (Below w.heap.size w w2) := HB.out.trans (b2.mono HB.out.size)
        clear b2
        go_wp2_with fail
        go_roundw
        case rel => exact ⟨k + 1, by omega, by omega, by go_num, fun h => by have := hkn h; omega, HB2.out⟩
        case measure => simp [intOf]; omega
    · have dk : decide ((k : Int) ≤ 10) = false := decide_eq_false (by omega)
      have dk' : decide (k ≤ 10) = false := decide_eq_false hk
      have hn0 : n = 0 := by
        rcases Nat.eq_zero_or_pos n with h | h
        · exact h
        · have := hkn h; omega
      subst hn0
      go_wp2_with fail
      go_ret2
      exact ⟨rfl, HB.out⟩
theorem word_any (k : Int) (κ : Nat) (h : (1 ≤ k ∧ k ≤ 10 ∧ k = κ) ∨ (¬ (1 ≤ k ∧ k ≤ 10) ∧ κ = 0)) (w : World) : Calls Try.prog 21 #[.int .i64 k] w (Ret (.string (wordN κ)) w) := by
  rcases h with ⟨h1, h2, rfl⟩ | ⟨h1, rfl⟩
  · exact word_in κ (by omega) w
  · exact word_out k h1 w
theorem words_long (k : Int) (a : ByteArray) (hs : a.size ≤ 9223372036854775807) (hl : 50 < a.size) (w : World) :
    Calls Try.prog 7 #[.int .i64 k, .string a] w (Ret (.bool true) w) := by
  have d1 : decide (50 < (a.size : Int)) = true := by simp; omega
  have d2 := decide_eq_true hl
  have HA := Lib.hid (awake11_any w)
  clear hl hs
  go_enter Try.func7, Try.ntmps7
  go_wp2_with fail
  refine HA.out.mono ?_
  rintro e w1 ⟨rfl, h1⟩
  go_wp2
  go_ret
  exact ⟨rfl, h1⟩
theorem words_cells (w wr : World) (h : Below (w.alloc (.cells #[.string ⟨#[]⟩, .string ⟨#[111, 112, 101, 110]⟩, .string ⟨#[116, 114, 97, 100, 101]⟩, .string ⟨#[99, 97, 110, 99, 101, 108]⟩, .string ⟨#[112, 97, 121]⟩, .string ⟨#[100, 101, 108, 105, 118, 101, 114]⟩, .string ⟨#[114, 101, 99, 97, 108, 108]⟩, .string ⟨#[98, 105, 100]⟩, .string ⟨#[116, 111, 112]⟩, .string ⟨#[100, 114, 97, 119]⟩, .string ⟨#[116, 105, 99, 107]⟩] 9)).heap.size (w.alloc (.cells #[.string ⟨#[]⟩, .string ⟨#[111, 112, 101, 110]⟩, .string ⟨#[116, 114, 97, 100, 101]⟩, .string ⟨#[99, 97, 110, 99, 101, 108]⟩, .string ⟨#[112, 97, 121]⟩, .string ⟨#[100, 101, 108, 105, 118, 101, 114]⟩, .string ⟨#[114, 101, 99, 97, 108, 108]⟩, .string ⟨#[98, 105, 100]⟩, .string ⟨#[116, 111, 112]⟩, .string ⟨#[100, 114, 97, 119]⟩, .string ⟨#[116, 105, 99, 107]⟩] 9)) wr) : ∀ k, k ≤ 10 → wr.cell? ⟨w.heap.size, k, none⟩ = some (.string (wordN k)) := by
  have hb := box_of_below h
  intro k hk
  have hc : ∀ k, k < 11 → (#[.string ⟨#[]⟩, .string ⟨#[111, 112, 101, 110]⟩, .string ⟨#[116, 114, 97, 100, 101]⟩, .string ⟨#[99, 97, 110, 99, 101, 108]⟩, .string ⟨#[112, 97, 121]⟩, .string ⟨#[100, 101, 108, 105, 118, 101, 114]⟩, .string ⟨#[114, 101, 99, 97, 108, 108]⟩, .string ⟨#[98, 105, 100]⟩, .string ⟨#[116, 111, 112]⟩, .string ⟨#[100, 114, 97, 119]⟩, .string ⟨#[116, 105, 99, 107]⟩] : Array Value)[k]? = some (.string (wordN k)) := by
    intro k hk
    match k, hk with
    | 0, _ | 1, _ | 2, _ | 3, _ | 4, _ | 5, _ | 6, _ | 7, _ | 8, _ | 9, _ | 10, _ => rfl
    | k + 11, hk => omega
  simp only [World.cell?, hb]
  exact hc k (by omega)
set_option maxHeartbeats 4000000 in
theorem words_any (k : Int) (a : ByteArray) (hs : a.size ≤ 50) (w : World) :
    Calls Try.prog 7 #[.int .i64 k, .string a] w (Ret (.bool true) w) := by
  obtain ⟨n, hn⟩ := kind_of a
  obtain ⟨κ, hκ⟩ : ∃ κ : Nat, (1 ≤ k ∧ k ≤ 10 ∧ k = κ) ∨ (¬ (1 ≤ k ∧ k ≤ 10) ∧ κ = 0) := by
    by_cases h : 1 ≤ k ∧ k ≤ 10
    · exact ⟨k.toNat, Or.inl ⟨h.1, h.2, by omega⟩⟩
    · exact ⟨0, Or.inr ⟨h, rfl⟩⟩
  have hs2 : (a.size : Int) ≤ 50 := by omega
  have d1 : decide (50 < (a.size : Int)) = false := by simp; omega
  have d2 : decide (50 < a.size) = false := by simp; omega
  have HA := Lib.hid awake11_any
  have HK := Lib.hid (kindw_any a n hn)
  have HW := Lib.hid (word_any k κ hκ)
  have HQ := Lib.hid (fun k => str_beq (wordN k) a)
  have HN := Lib.hid hn
  have HKE : Hid (∀ j : Nat, 1 ≤ j → j ≤ 10 → ((j : Int) = k ↔ j = κ)) := fun j h1 h2 => by omega
  have HCL := Lib.hid (words_cells w)
  have HKL : Hid (κ ≤ 10) := by show _ ≤ _; omega
  clear hn hs hκ
  go_enter Try.func7, Try.ntmps7
  go_wp2_with fail
  go_loopw [6, 7, 8] (fun sv pv iv wr => ∃ j : Nat, 1 ≤ j ∧ j ≤ 11 ∧ iv = .int .i64 j ∧ sv = .string (wordN (if κ < j then κ else 0)) ∧ pv = .int .i64 ((if n < j then n else 0 : Nat) : Int) ∧ Below (w.alloc (.cells #[.string ⟨#[]⟩, .string ⟨#[111, 112, 101, 110]⟩, .string ⟨#[116, 114, 97, 100, 101]⟩, .string ⟨#[99, 97, 110, 99, 101, 108]⟩, .string ⟨#[112, 97, 121]⟩, .string ⟨#[100, 101, 108, 105, 118, 101, 114]⟩, .string ⟨#[114, 101, 99, 97, 108, 108]⟩, .string ⟨#[98, 105, 100]⟩, .string ⟨#[116, 111, 112]⟩, .string ⟨#[100, 114, 97, 119]⟩, .string ⟨#[116, 105, 99, 107]⟩] 9)).heap.size (w.alloc (.cells #[.string ⟨#[]⟩, .string ⟨#[111, 112, 101, 110]⟩, .string ⟨#[116, 114, 97, 100, 101]⟩, .string ⟨#[99, 97, 110, 99, 101, 108]⟩, .string ⟨#[112, 97, 121]⟩, .string ⟨#[100, 101, 108, 105, 118, 101, 114]⟩, .string ⟨#[114, 101, 99, 97, 108, 108]⟩, .string ⟨#[98, 105, 100]⟩, .string ⟨#[116, 111, 112]⟩, .string ⟨#[100, 114, 97, 119]⟩, .string ⟨#[116, 105, 99, 107]⟩] 9)) wr) (fun _ _ iv _ => 11 - (intOf iv).toNat)
  case atStart => exact ⟨1, by omega, by omega, rfl, by (by_cases h : κ < 1 <;> simp [h, wordN]; all_goals (have : κ = 0 := by omega); subst this; rfl), by (by_cases h : n < 1 <;> simp [h]; omega), Below.refl _ _⟩
  case round =>
    obtain ⟨j, hj1, hj2, rfl, rfl, rfl, hbel⟩ := hrel
    have HB := Lib.hid hbel
    clear hbel
    by_cases hj : j ≤ 10
    · have hj3 : (j : Int) ≤ 10 := by omega
      have dk : decide ((j : Int) < 11) = true := decide_eq_true (by omega)
      have dk' : decide (j < 11) = true := decide_eq_true (by omega)
      have cj := HCL.out wr HB.out j hj
      have hq := HQ.out j
      obtain ⟨x, hx⟩ : ∃ x, wordN j = x := ⟨_, rfl⟩
      rw [hx] at cj hq
      obtain ⟨s0, hs0⟩ : ∃ s0, wordN (if κ < j then κ else 0) = s0 := ⟨_, rfl⟩
      obtain ⟨p0, hp0⟩ : ∃ p0 : Nat, (if n < j then n else 0) = p0 := ⟨_, rfl⟩
      rw [hs0, hp0]
      have HS1 : Hid (wordN (if κ < j + 1 then κ else 0) = if j = κ then x else s0) := by
        show _ = _
        rw [← hs0, ← hx]
        by_cases h : j = κ
        · subst h; rw [if_pos (by omega), if_pos rfl]
        · rw [if_neg h]
          by_cases h2 : κ < j
          · rw [if_pos (by omega), if_pos h2]
          · rw [if_neg (by omega), if_neg h2]
      have HP1 : Hid ((if n < j + 1 then n else 0) = if j = n then j else p0) := by
        show _ = _
        rw [← hp0]
        by_cases h : j = n
        · subst h; rw [if_pos (by omega), if_pos rfl]
        · rw [if_neg h]
          by_cases h2 : n < j
          · rw [if_pos (by omega), if_pos h2]
          · rw [if_neg (by omega), if_neg h2]
      have hkk := HKE.out j hj1 hj
      have hnn := HN.out.2 j hj1 hj
      rw [hx] at hnn
      clear hx hs0 hp0
      by_cases h1 : j = κ
      · rw [if_pos h1] at HS1
        have b1 : ((j : Int) == k) = true := by rw [beq_iff_eq]; exact hkk.2 h1
        by_cases h2 : j = n
        · rw [if_pos h2] at HP1
          rw [decide_eq_true (hnn.2 h2)] at hq
          clear h1 h2 hkk hnn
          go_wp2_with fail
          go_roundw
          case rel => exact ⟨j + 1, by omega, by omega, by go_num, by rw [HS1.out], by rw [HP1.out], HB.out⟩
          case measure => simp [intOf]; omega
        · rw [if_neg h2] at HP1
          rw [decide_eq_false (fun e => h2 (hnn.1 e))] at hq
          clear h1 h2 hkk hnn
          go_wp2_with fail
          go_roundw
          case rel => exact ⟨j + 1, by omega, by omega, by go_num, by rw [HS1.out], by rw [HP1.out], HB.out⟩
          case measure => simp [intOf]; omega
      · rw [if_neg h1] at HS1
        have b1 : ((j : Int) == k) = false := by rw [beq_eq_false_iff_ne]; exact fun e => h1 (hkk.1 e)
        by_cases h2 : j = n
        · rw [if_pos h2] at HP1
          rw [decide_eq_true (hnn.2 h2)] at hq
          clear h1 h2 hkk hnn
          go_wp2_with fail
          go_roundw
          case rel => exact ⟨j + 1, by omega, by omega, by go_num, by rw [HS1.out], by rw [HP1.out], HB.out⟩
          case measure => simp [intOf]; omega
        · rw [if_neg h2] at HP1
          rw [decide_eq_false (fun e => h2 (hnn.1 e))] at hq
          clear h1 h2 hkk hnn
          go_wp2_with fail
          go_roundw
          case rel => exact ⟨j + 1, by omega, by omega, by go_num, by rw [HS1.out], by rw [HP1.out], HB.out⟩
          case measure => simp [intOf]; omega
    · have e11 : j = 11 := by omega
      subst e11
      have hκ2 : κ < 11 := by have := HKL.out; omega
      have hn2 : n < 11 := by have := HN.out.1; omega
      rw [if_pos hκ2, if_pos hn2]
      have d3 : decide (0 < (n : Int)) = decide (0 < n) := by simp
      have HB0 := Lib.hid (below_of_box HB.out)
      obtain ⟨x, hx⟩ : ∃ x, wordN κ = x := ⟨_, rfl⟩
      rw [hx] at HW ⊢
      clear hx hκ2 hn2
      go_wp2_with fail
      refine (HK.out _).mono ?_
      rintro e w2 ⟨rfl, b2⟩
      have HB2 : Hid (Below w.heap.size w w2) := HB0.out.trans (b2.mono HB0.out.size)
      clear b2
      go_wp2_with fail
      refine (HA.out _).mono ?_
      rintro e w3 ⟨rfl, b3⟩
      have HB3 : Hid (Below w.heap.size w w3) := HB2.out.trans (b3.mono HB2.out.size)
      clear b3
      go_wp2_with fail
      refine (HW.out _).mono ?_
      rintro e w4 ⟨rfl, b4⟩
      have HB4 : Hid (Below w.heap.size w w4) := HB3.out.trans (b4.mono HB3.out.size)
      clear b4
      go_wp2_with fail
      go_ret
      exact ⟨rfl, HB4.out⟩
end Go.Proofs.Ytbpaongnehgodaa
