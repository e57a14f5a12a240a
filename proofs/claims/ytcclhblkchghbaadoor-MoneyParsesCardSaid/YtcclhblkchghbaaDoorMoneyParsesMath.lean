/- What the document's Parse tells: plain lists. -/
import Derived.Test.YtcclhblkchghbaaDoorMoneyRefParse2
import Derived.Test.YtcclhblkchghbaaDoorMoneyParse
namespace Go.Proofs.YtcclhblkchghbaaDoor
open Go.ChangeShapes Go.WideShapes Go.ChangeAt Go.RowKit
theorem rp_digits (len : Nat) (rest A : List UInt8) (i acc : Nat) (hd : ∀ c ∈ A, isDig c) (hv : dv acc A ≤ 9223372036854775808) :
    rp len (A ++ rest) i (-(acc : Int)) = rp len rest (i + A.length) (-((dv acc A : Nat) : Int)) := by
  induction A generalizing i acc with
  | nil => rfl
  | cons c A ih =>
    have hc : 48 ≤ c.toNat ∧ c.toNat ≤ 57 := hd c (by simp)
    rw [dv_cons] at hv ⊢
    have h1 := Nat.le_trans (dv_ge A (acc * 10 + (c.toNat - 48))) hv
    have h2 : -(acc : Int) * 10 - ((c.toNat : Int) - 48) = -((acc * 10 + (c.toNat - 48) : Nat) : Int) := by omega
    rw [List.cons_append, rp, if_neg (by omega), if_neg (by omega), h2, ih _ _ (fun x hx => hd x (by simp [hx])) hv, List.length_cons]
    congr 1
    omega
/-- A text without its sign. -/
def bodyL (u : Nat) : List UInt8 := Lib.decDigits (u / 100) ++ 46 :: (Lib.decDigits (u % 100 / 10) ++ Lib.decDigits (u % 10))
theorem textL_body (v : Int) : textL v = signL v ++ bodyL v.natAbs := rfl
theorem rp_body (u : Nat) (hu : u ≤ 9223372036854775808) : rp (bodyL u).length (bodyL u) 0 0 = some (-(u : Int)) := by
  have hlen : (bodyL u).length = (Lib.decDigits (u / 100)).length + 3 := by
    unfold bodyL
    rw [Lib.decDigits_one (show u % 100 / 10 < 10 by omega), Lib.decDigits_one (show u % 10 < 10 by omega)]
    simp
  have h1 := rp_digits (bodyL u).length (46 :: (Lib.decDigits (u % 100 / 10) ++ Lib.decDigits (u % 10))) (Lib.decDigits (u / 100)) 0 0 (decDigits_dig _) (by rw [decDigits_val]; omega)
  have h0 : rp (bodyL u).length (bodyL u) 0 0 = rp (bodyL u).length (Lib.decDigits (u / 100) ++ 46 :: (Lib.decDigits (u % 100 / 10) ++ Lib.decDigits (u % 10))) 0 (-((0 : Nat) : Int)) := rfl
  rw [h0, h1, decDigits_val]
  rw [rp, if_pos ⟨rfl, by omega⟩]
  have hB : dv (u / 100) (Lib.decDigits (u % 100 / 10) ++ Lib.decDigits (u % 10)) = u := by
    rw [Lib.decDigits_one (show u % 100 / 10 < 10 by omega), Lib.decDigits_one (show u % 10 < 10 by omega)]
    simp only [List.cons_append, List.nil_append, dv_cons, dv_nil]
    rw [dig_nat (by omega), dig_nat (by omega)]
    omega
  have h2 := rp_digits (bodyL u).length [] (Lib.decDigits (u % 100 / 10) ++ Lib.decDigits (u % 10)) (0 + (Lib.decDigits (u / 100)).length + 1) (u / 100) (fun c hc => by
    rcases List.mem_append.1 hc with hc | hc
    · exact decDigits_dig _ c hc
    · exact decDigits_dig _ c hc) (by rw [hB]; exact hu)
  rw [List.append_nil, hB] at h2
  rw [h2]
  rfl
theorem rp_range (len : Nat) (t : List UInt8) (i : Nat) (n m : Int) (h : rp len t i n = some m) (h1 : -9223372036854775808 ≤ n) (h2 : n ≤ 0) : -9223372036854775808 ≤ m ∧ m ≤ 0 := by
  induction t generalizing i n with
  | nil =>
    rw [rp] at h
    obtain rfl := Option.some.inj h
    exact ⟨h1, h2⟩
  | cons c t ih =>
    rw [rp] at h
    split at h
    · exact ih _ _ h h1 h2
    · split at h
      · cases h
      · exact ih _ _ h (by omega) (by omega)
theorem refTail_none (neg : Bool) (l t : List UInt8) (h : ∀ v : Int, -9223372036854775808 ≤ v ∧ v ≤ 9223372036854775807 → textL v ≠ l) : refTail neg l t = badV := by
  unfold refTail
  split
  · rfl
  · rename_i n hn
    have hr := rp_range _ _ _ _ _ hn (by omega) (by omega)
    unfold refEnd
    split
    · rfl
    · rename_i h3
      cases neg
      · have : n ≠ -9223372036854775808 := fun e => h3 ⟨rfl, e⟩
        exact if_neg (h _ (by simp only [Bool.false_eq_true, if_false]; omega))
      · exact if_neg (h _ (by simp only [if_true]; omega))
theorem refTail_neg (v : Int) (hv : -9223372036854775808 ≤ v ∧ v ≤ 9223372036854775807) (h : v < 0) : refTail true (textL v) (bodyL v.natAbs) = .tuple #[.int .i64 v, .int .i64 0] := by
  unfold refTail
  rw [rp_body _ (by omega)]
  have e : -((v.natAbs : Nat) : Int) = v := by omega
  show refEnd true (textL v) (-((v.natAbs : Nat) : Int)) = _
  rw [e]
  unfold refEnd
  rw [if_neg (by simp)]
  exact if_pos rfl
theorem refTail_pos (v : Int) (hv : -9223372036854775808 ≤ v ∧ v ≤ 9223372036854775807) (h : ¬ v < 0) : refTail false (textL v) (textL v) = .tuple #[.int .i64 v, .int .i64 0] := by
  have hb : textL v = bodyL v.natAbs := by rw [textL_body, signL, if_neg h]; rfl
  unfold refTail
  rw [show rp (textL v).length (textL v) 0 0 = some (-((v.natAbs : Nat) : Int)) from by rw [hb]; exact rp_body _ (by omega)]
  have e : - -((v.natAbs : Nat) : Int) = v := by omega
  show refEnd false (textL v) (-((v.natAbs : Nat) : Int)) = _
  unfold refEnd
  rw [if_neg (by omega)]
  show (if textL (- -((v.natAbs : Nat) : Int)) = textL v then Value.tuple #[.int .i64 (- -((v.natAbs : Nat) : Int)), .int .i64 0] else badV) = _
  rw [e, if_pos rfl]
/-- The document's Parse, of any text of up to 100 bytes. -/
theorem refparse_yes (v : Int) (hv : -9223372036854775808 ≤ v ∧ v ≤ 9223372036854775807) (s : ByteArray) (hs : s.data.toList = textL v) (w : World) :
    Calls Tryd.prog 23 #[.string s] w (Ret (.tuple #[.int .i64 v, .int .i64 0]) w) := by
  have hlen := textL_len v hv
  have hsz : s.size = (textL v).length := by rw [← hs]; simp
  have hne : 0 < (textL v).length := by rw [textL_parts]; simp; omega
  by_cases h : v < 0
  · have hl : textL v = 45 :: bodyL v.natAbs := by rw [textL_body, signL, if_pos h]; rfl
    have h0 : 0 < s.size := by omega
    have hb : (s[0]'h0) = 45 := by
      have e : s.data.toList[0]'(by simpa using h0) = s[0]'h0 := rfl
      rw [← e]
      simp [hs, hl]
    have hx : (s.extract 1 s.size).data.toList = bodyL v.natAbs := by
      rw [Lib.extract_data, hs, hl]
      simp only [List.drop_succ_cons, List.drop_zero]
      rw [List.take_of_length_le]
      rw [hsz, hl]
      simp
    have hr := refparse_neg s (by omega) (s.extract 1 s.size) rfl (by
      have h3 : (s.extract 1 s.size).size = (s.extract 1 s.size).data.toList.length := by simp
      have h4 : (textL v).length = (bodyL v.natAbs).length + 1 := by rw [hl]; rfl
      rw [h3, hx]
      omega) h0 (by rw [hb]; rfl) w
    rw [hs, hx, refTail_neg v hv h] at hr
    exact hr
  · have hl : textL v = bodyL v.natAbs := by rw [textL_body, signL, if_neg h]; rfl
    have h0 : 0 < s.size := by omega
    have hr := refparse_pos s (by omega) (Or.inr ⟨h0, by
      have e : s.data.toList[0]'(by simpa using h0) = s[0]'h0 := rfl
      rw [← e]
      have hd : isDig (s.data.toList[0]'(by simpa using h0)) := by
        obtain ⟨c, r, hcr⟩ : ∃ c r, Lib.decDigits (v.natAbs / 100) = c :: r := by
          cases hf : Lib.decDigits (v.natAbs / 100) with
          | nil => exact absurd hf (decDigits_ne _)
          | cons c r => exact ⟨c, r, rfl⟩
        have hc : isDig c := decDigits_dig (v.natAbs / 100) c (by rw [hcr]; simp)
        have e2 : s.data.toList[0]'(by simpa using h0) = c := by
          simp [hs, hl, bodyL, hcr]
        rw [e2]
        exact hc
      unfold isDig at hd
      rw [beq_eq_false_iff_ne]
      omega⟩) w
    rw [hs, refTail_pos v hv h] at hr
    exact hr
theorem refparse_no (s : ByteArray) (hs : s.size ≤ 100) (h : ∀ v : Int, -9223372036854775808 ≤ v ∧ v ≤ 9223372036854775807 → textL v ≠ s.data.toList) (w : World) :
    Calls Tryd.prog 23 #[.string s] w (Ret badV w) := by
  rcases Nat.eq_zero_or_pos s.size with h0 | h0
  · have hr := refparse_pos s hs (Or.inl h0) w
    rw [refTail_none _ _ _ h] at hr
    exact hr
  · by_cases hb : ((((s[0]'h0).toNat : Nat) : Int) == 45) = true
    · have hr := refparse_neg s hs (s.extract 1 s.size) rfl (by
        have : (s.extract 1 s.size).size = (s.extract 1 s.size).data.toList.length := by simp
        rw [this, Lib.extract_data]
        simp
        omega) h0 hb w
      rw [refTail_none _ _ _ h] at hr
      exact hr
    · have hr := refparse_pos s hs (Or.inr ⟨h0, by simpa using hb⟩) w
      rw [refTail_none _ _ _ h] at hr
      exact hr
end Go.Proofs.YtcclhblkchghbaaDoor
