/- What is put is got; what is got has just these bytes. -/
import Derived.Test.YtbpaongnehgodaaCoMath
namespace Go.Proofs.Ytbpaongnehgodaa
open Go.ChangeShapes Go.WideShapes Go.ChangeAt Go.RowKit
theorem len0 {l : List Int} (h : l.length = 0) : l = [] := List.length_eq_zero_iff.1 h
theorem lenS {l : List Int} {n : Nat} (h : l.length = n + 1) : ∃ a m, l = a :: m ∧ m.length = n := by
  cases l with
  | nil => simp at h
  | cons a m => exact ⟨a, m, rfl, by simpa using h⟩
/-- A command with these numbers is right, and has just them. -/
theorem set_right (k : Int) (hk : isK k = true) (ns : List Int) (h : ns.length = (lets k).length) :
    (setL ⟨k, 0, 0, 0, 0, 0, 0⟩ (lets k) ns).k = k ∧ rightV (setL ⟨k, 0, 0, 0, 0, 0, 0⟩ (lets k) ns) = true ∧ numsL (setL ⟨k, 0, 0, 0, 0, 0, 0⟩ (lets k) ns) (lets k) (lets k).length = k :: ns := by
  rcases kinds k with rfl | rfl | rfl | rfl | rfl | rfl | rfl | rfl | rfl | rfl | hk'
  · rw [lets_1] at h ⊢
    simp only [letsN, List.length_nil] at h
    obtain rfl := len0 h
    have e : setL ⟨1, 0, 0, 0, 0, 0, 0⟩ (letsN 1) [] = ⟨1, 0, 0, 0, 0, 0, 0⟩ := by simp [setL, letsN]
    rw [e]
    refine ⟨rfl, ?_, ?_⟩
    · unfold rightV
      simp only [isK_1, lets_1]
      simp [restC, letsN, cmEq, zeroC]
    · unfold numsL
      rw [List.take_length]
      simp [letsN]
  · rw [lets_2] at h ⊢
    simp only [letsN, List.length_cons, List.length_nil] at h
    obtain ⟨n0, m0, rfl, h0⟩ := lenS h
    obtain ⟨n1, m1, rfl, h1⟩ := lenS h0
    obtain ⟨n2, m2, rfl, h2⟩ := lenS h1
    obtain ⟨n3, m3, rfl, h3⟩ := lenS h2
    obtain ⟨n4, m4, rfl, h4⟩ := lenS h3
    obtain ⟨n5, m5, rfl, h5⟩ := lenS h4
    obtain rfl := len0 h5
    have e : setL ⟨2, 0, 0, 0, 0, 0, 0⟩ (letsN 2) [n0, n1, n2, n3, n4, n5] = ⟨2, n0, n1, n2, n3, n4, n5⟩ := by simp [setL, letsN, withL]
    rw [e]
    refine ⟨rfl, ?_, ?_⟩
    · unfold rightV
      simp only [isK_2, lets_2]
      simp [restC, letsN, withL, cmEq, zeroC]
    · unfold numsL
      rw [List.take_length]
      simp [letsN, valL]
  · rw [lets_3] at h ⊢
    simp only [letsN, List.length_cons, List.length_nil] at h
    obtain ⟨n0, m0, rfl, h0⟩ := lenS h
    obtain rfl := len0 h0
    have e : setL ⟨3, 0, 0, 0, 0, 0, 0⟩ (letsN 3) [n0] = ⟨3, n0, 0, 0, 0, 0, 0⟩ := by simp [setL, letsN, withL]
    rw [e]
    refine ⟨rfl, ?_, ?_⟩
    · unfold rightV
      simp only [isK_3, lets_3]
      simp [restC, letsN, withL, cmEq, zeroC]
    · unfold numsL
      rw [List.take_length]
      simp [letsN, valL]
  · rw [lets_4] at h ⊢
    simp only [letsN, List.length_cons, List.length_nil] at h
    obtain ⟨n0, m0, rfl, h0⟩ := lenS h
    obtain ⟨n1, m1, rfl, h1⟩ := lenS h0
    obtain rfl := len0 h1
    have e : setL ⟨4, 0, 0, 0, 0, 0, 0⟩ (letsN 4) [n0, n1] = ⟨4, 0, n0, 0, 0, n1, 0⟩ := by simp [setL, letsN, withL]
    rw [e]
    refine ⟨rfl, ?_, ?_⟩
    · unfold rightV
      simp only [isK_4, lets_4]
      simp [restC, letsN, withL, cmEq, zeroC]
    · unfold numsL
      rw [List.take_length]
      simp [letsN, valL]
  · rw [lets_5] at h ⊢
    simp only [letsN, List.length_cons, List.length_nil] at h
    obtain ⟨n0, m0, rfl, h0⟩ := lenS h
    obtain ⟨n1, m1, rfl, h1⟩ := lenS h0
    obtain ⟨n2, m2, rfl, h2⟩ := lenS h1
    obtain rfl := len0 h2
    have e : setL ⟨5, 0, 0, 0, 0, 0, 0⟩ (letsN 5) [n0, n1, n2] = ⟨5, 0, n0, 0, n1, n2, 0⟩ := by simp [setL, letsN, withL]
    rw [e]
    refine ⟨rfl, ?_, ?_⟩
    · unfold rightV
      simp only [isK_5, lets_5]
      simp [restC, letsN, withL, cmEq, zeroC]
    · unfold numsL
      rw [List.take_length]
      simp [letsN, valL]
  · rw [lets_6] at h ⊢
    simp only [letsN, List.length_cons, List.length_nil] at h
    obtain ⟨n0, m0, rfl, h0⟩ := lenS h
    obtain ⟨n1, m1, rfl, h1⟩ := lenS h0
    obtain ⟨n2, m2, rfl, h2⟩ := lenS h1
    obtain rfl := len0 h2
    have e : setL ⟨6, 0, 0, 0, 0, 0, 0⟩ (letsN 6) [n0, n1, n2] = ⟨6, 0, n0, 0, n1, n2, 0⟩ := by simp [setL, letsN, withL]
    rw [e]
    refine ⟨rfl, ?_, ?_⟩
    · unfold rightV
      simp only [isK_6, lets_6]
      simp [restC, letsN, withL, cmEq, zeroC]
    · unfold numsL
      rw [List.take_length]
      simp [letsN, valL]
  · rw [lets_7] at h ⊢
    simp only [letsN, List.length_cons, List.length_nil] at h
    obtain ⟨n0, m0, rfl, h0⟩ := lenS h
    obtain ⟨n1, m1, rfl, h1⟩ := lenS h0
    obtain ⟨n2, m2, rfl, h2⟩ := lenS h1
    obtain ⟨n3, m3, rfl, h3⟩ := lenS h2
    obtain rfl := len0 h3
    have e : setL ⟨7, 0, 0, 0, 0, 0, 0⟩ (letsN 7) [n0, n1, n2, n3] = ⟨7, 0, n0, 0, n1, n2, n3⟩ := by simp [setL, letsN, withL]
    rw [e]
    refine ⟨rfl, ?_, ?_⟩
    · unfold rightV
      simp only [isK_7, lets_7]
      simp [restC, letsN, withL, cmEq, zeroC]
    · unfold numsL
      rw [List.take_length]
      simp [letsN, valL]
  · rw [lets_8] at h ⊢
    simp only [letsN, List.length_cons, List.length_nil] at h
    obtain ⟨n0, m0, rfl, h0⟩ := lenS h
    obtain ⟨n1, m1, rfl, h1⟩ := lenS h0
    obtain rfl := len0 h1
    have e : setL ⟨8, 0, 0, 0, 0, 0, 0⟩ (letsN 8) [n0, n1] = ⟨8, 0, n0, 0, 0, n1, 0⟩ := by simp [setL, letsN, withL]
    rw [e]
    refine ⟨rfl, ?_, ?_⟩
    · unfold rightV
      simp only [isK_8, lets_8]
      simp [restC, letsN, withL, cmEq, zeroC]
    · unfold numsL
      rw [List.take_length]
      simp [letsN, valL]
  · rw [lets_9] at h ⊢
    simp only [letsN, List.length_cons, List.length_nil] at h
    obtain ⟨n0, m0, rfl, h0⟩ := lenS h
    obtain ⟨n1, m1, rfl, h1⟩ := lenS h0
    obtain rfl := len0 h1
    have e : setL ⟨9, 0, 0, 0, 0, 0, 0⟩ (letsN 9) [n0, n1] = ⟨9, 0, n0, 0, 0, n1, 0⟩ := by simp [setL, letsN, withL]
    rw [e]
    refine ⟨rfl, ?_, ?_⟩
    · unfold rightV
      simp only [isK_9, lets_9]
      simp [restC, letsN, withL, cmEq, zeroC]
    · unfold numsL
      rw [List.take_length]
      simp [letsN, valL]
  · rw [lets_10] at h ⊢
    simp only [letsN, List.length_nil] at h
    obtain rfl := len0 h
    have e : setL ⟨10, 0, 0, 0, 0, 0, 0⟩ (letsN 10) [] = ⟨10, 0, 0, 0, 0, 0, 0⟩ := by simp [setL, letsN]
    rw [e]
    refine ⟨rfl, ?_, ?_⟩
    · unfold rightV
      simp only [isK_10, lets_10]
      simp [restC, letsN, cmEq, zeroC]
    · unfold numsL
      rw [List.take_length]
      simp [letsN]
  · exact absurd (of_decide_eq_true hk) hk'
/-- A right command is made of its numbers. -/
theorem right_self (c : Cm) (h : rightV c = true) : isK c.k = true ∧ c = setL ⟨c.k, 0, 0, 0, 0, 0, 0⟩ (lets c.k) ((lets c.k).map (fun x => valL c x.toNat)) := by
  have hk : isK c.k = true := by
    unfold rightV at h
    cases hh : isK c.k with
    | true => rfl
    | false => rw [hh] at h; cases h
  refine ⟨hk, ?_⟩
  obtain ⟨k, i, m, o, s, q, p⟩ := c
  rcases kinds k with rfl | rfl | rfl | rfl | rfl | rfl | rfl | rfl | rfl | rfl | hk'
  · unfold rightV at h
    simp only [isK_1, lets_1] at h
    simp [restC, letsN, cmEq, zeroC] at h
    simp only [lets_1]
    simp [setL, letsN, h]
  · unfold rightV at h
    simp only [isK_2, lets_2] at h
    simp [restC, letsN, withL, cmEq, zeroC] at h
    simp only [lets_2]
    simp [setL, letsN, withL, valL]
  · unfold rightV at h
    simp only [isK_3, lets_3] at h
    simp [restC, letsN, withL, cmEq, zeroC] at h
    simp only [lets_3]
    simp [setL, letsN, withL, valL, h]
  · unfold rightV at h
    simp only [isK_4, lets_4] at h
    simp [restC, letsN, withL, cmEq, zeroC] at h
    simp only [lets_4]
    simp [setL, letsN, withL, valL, h]
  · unfold rightV at h
    simp only [isK_5, lets_5] at h
    simp [restC, letsN, withL, cmEq, zeroC] at h
    simp only [lets_5]
    simp [setL, letsN, withL, valL, h]
  · unfold rightV at h
    simp only [isK_6, lets_6] at h
    simp [restC, letsN, withL, cmEq, zeroC] at h
    simp only [lets_6]
    simp [setL, letsN, withL, valL, h]
  · unfold rightV at h
    simp only [isK_7, lets_7] at h
    simp [restC, letsN, withL, cmEq, zeroC] at h
    simp only [lets_7]
    simp [setL, letsN, withL, valL, h]
  · unfold rightV at h
    simp only [isK_8, lets_8] at h
    simp [restC, letsN, withL, cmEq, zeroC] at h
    simp only [lets_8]
    simp [setL, letsN, withL, valL, h]
  · unfold rightV at h
    simp only [isK_9, lets_9] at h
    simp [restC, letsN, withL, cmEq, zeroC] at h
    simp only [lets_9]
    simp [setL, letsN, withL, valL, h]
  · unfold rightV at h
    simp only [isK_10, lets_10] at h
    simp [restC, letsN, cmEq, zeroC] at h
    simp only [lets_10]
    simp [setL, letsN, h]
  · exact absurd (of_decide_eq_true hk) hk'
theorem withL_in (c : Cm) (hc : c.In) (x : Nat) (n : Int) (hn : -9223372036854775808 ≤ n ∧ n ≤ 9223372036854775807) : (withL c x n).In := by
  obtain ⟨h0, h1, h2, h3, h4, h5, h6⟩ := hc
  unfold withL
  split
  · exact ⟨h0, hn, h2, h3, h4, h5, h6⟩
  · split
    · exact ⟨h0, h1, hn, h3, h4, h5, h6⟩
    · split
      · exact ⟨h0, h1, h2, hn, h4, h5, h6⟩
      · split
        · exact ⟨h0, h1, h2, h3, hn, h5, h6⟩
        · split
          · exact ⟨h0, h1, h2, h3, h4, hn, h6⟩
          · split
            · exact ⟨h0, h1, h2, h3, h4, h5, hn⟩
            · exact ⟨h0, h1, h2, h3, h4, h5, h6⟩
theorem setL_in : ∀ (L : List UInt8) (ns : List Int) (c : Cm), c.In → (∀ n, n ∈ ns → -9223372036854775808 ≤ n ∧ n ≤ 9223372036854775807) → (setL c L ns).In
  | [], _, c, hc, _ => by simpa [setL] using hc
  | a :: L, [], c, hc, _ => by simpa [setL] using hc
  | a :: L, n :: ns, c, hc, hr => by
    rw [setL]
    exact setL_in L ns _ (withL_in c hc _ n (hr n (List.mem_cons_self ..))) (fun m hm => hr m (List.mem_cons_of_mem _ hm))
/-- The bytes of a right command. -/
def bytesC (c : Cm) : List UInt8 := encL (numsL c (lets c.k) (lets c.k).length)
/-- Bytes of a right command, and what comes behind them, are read as they were. -/
theorem read_bytes (c : Cm) (hc : c.In) (h : rightV c = true) (more : List UInt8) : readC ⟨(bytesC c ++ more).toArray⟩ 0 = (c, (⟨more.toArray⟩, 0), 0) := by
  obtain ⟨hk, hs⟩ := right_self c h
  have hb : bytesC c = encN (codeN c.k) ++ encL ((lets c.k).map (fun x => valL c x.toNat)) := by
    unfold bytesC numsL
    rw [List.take_length]
    rfl
  have hr : rd ⟨(bytesC c ++ more).toArray⟩ 0 = (c.k, ⟨(encL ((lets c.k).map (fun x => valL c x.toNat)) ++ more).toArray⟩, 0) := by
    rw [hb, List.append_assoc]
    exact rd_enc c.k hc.1 _
  unfold readC
  rw [hr]
  simp only [ne_eq, not_true_eq_false, if_false, hk, if_true]
  rw [read_rdJ c.k _ _ hk]
  have e := rdL_enc more (lets c.k) ((lets c.k).map (fun x => valL c x.toNat)) ⟨c.k, 0, 0, 0, 0, 0, 0⟩ (by simp) (fun n hn => by
    obtain ⟨x, _, rfl⟩ := List.mem_map.1 hn
    exact valL_in c hc _)
  unfold rdJ
  rw [List.take_length, e, ← hs]
/-- What was read with no error is a right command, and its bytes, and what is left, were there. -/
theorem read_back (s : ByteArray) (e : Int) (h : (readC s e).2.2 = 0) : e = 0 ∧ (readC s e).2.1.2 = 0 ∧ (readC s e).1.In ∧ rightV (readC s e).1 = true ∧ s.data.toList = bytesC (readC s e).1 ++ (readC s e).2.1.1.data.toList := by
  unfold readC at h ⊢
  by_cases h1 : (rd s e).2.2 = 0
  · obtain ⟨k1, k2, k3⟩ := rd_ok h1
    cases hk : isK (rd s e).1 with
    | false =>
      rw [if_neg (by simp [h1]), hk] at h
      simp at h
    | true =>
      rw [if_neg (by simp [h1]), hk] at h
      rw [if_neg (by simp [h1])]
      simp only [if_true] at h ⊢
      obtain ⟨⟨n, s1, e1⟩, hrd⟩ : ∃ y, rd s e = y := ⟨_, rfl⟩
      rw [hrd] at h1 k2 k3 hk h ⊢
      simp only at h1 k2 k3 hk h ⊢
      rw [read_rdJ n s1 e1 hk] at h ⊢
      unfold rdJ at h ⊢
      rw [List.take_length] at h ⊢
      obtain ⟨l1, ns, l2, l3, l4, l5⟩ := rdL_ok _ _ _ _ h
      obtain ⟨r1, r2, r3⟩ := set_right n hk ns l2
      rw [l5]
      refine ⟨k1, h, setL_in _ _ _ ⟨k2, z64, z64, z64, z64, z64, z64⟩ l3, r2, ?_⟩
      unfold bytesC
      rw [r1, r3, k3, l4]
      simp [encL]
  · rw [if_pos h1] at h
    exact absurd h h1
end Go.Proofs.Ytbpaongnehgodaa
