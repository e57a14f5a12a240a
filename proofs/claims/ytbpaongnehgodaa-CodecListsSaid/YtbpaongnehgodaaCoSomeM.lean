/- The bytes of some, read; what was read has just these bytes. -/
import Derived.Test.YtbpaongnehgodaaCoSome
namespace Go.Proofs.Ytbpaongnehgodaa
open Go.ChangeShapes Go.WideShapes Go.ChangeAt Go.RowKit
/-- The bytes of commands. -/
def flatL : List Cm → List UInt8
  | [] => []
  | c :: l => bytesC c ++ flatL l
theorem flatL_append (l m : List Cm) : flatL (l ++ m) = flatL l ++ flatL m := by
  induction l with
  | nil => rfl
  | cons c l ih => simp [flatL, ih]
theorem flatB_list (f : Nat → Cm) : ∀ n, flatB f n = flatL ((List.range n).map f)
  | 0 => rfl
  | n + 1 => by
    rw [List.range_succ, List.map_append, flatL_append, flatB, flatB_list f n]
    simp [flatL]
theorem someN_enc : ∀ (l acc : List Cm), (∀ c, c ∈ l → c.In ∧ rightV c = true) → someN l.length (⟨(flatL l).toArray⟩, 0) acc = .inr (acc ++ l, (⟨#[]⟩, 0))
  | [], acc, _ => by simp [someN, flatL]
  | c :: l, acc, h => by
    obtain ⟨h1, h2⟩ := h c (List.mem_cons_self ..)
    have e := read_bytes c h1 h2 (flatL l)
    show someN (l.length + 1) (⟨(bytesC c ++ flatL l).toArray⟩, 0) acc = _
    rw [someN]
    simp only [e, ne_eq, not_true_eq_false, if_false]
    rw [someN_enc l (acc ++ [c]) (fun d hd => h d (List.mem_cons_of_mem _ hd))]
    simp
theorem upT_enc (n : Nat) (hn : n ≤ 1024) (more : List UInt8) : upT ⟨(encN (codeN (n : Int)) ++ more).toArray⟩ = ((n : Int), ⟨more.toArray⟩, 0) := by
  have h := rd_enc (n : Int) (by omega) more
  unfold rd readV at h
  unfold upT readV
  rw [if_neg (by simp)] at h ⊢
  have e1 : getR 0 ((⟨(encN (codeN (n : Int)) ++ more).toArray⟩ : ByteArray).data.toList) = .ok (codeN n) (encN (codeN (n : Int))).length := by
    simpa using getR_enc more 0 (codeN n) (by decide) (by have := codeN_lt (n := (n : Int)) (by omega); simpa using this) (fun h => absurd h (Nat.lt_irrefl 0))
  rw [e1] at h ⊢
  simp only [if_true, numN_code] at h ⊢
  have hu : uptoM 1024 (n : Int) = 0 := by unfold uptoM; rw [if_neg (by omega)]
  rw [if_pos hu]
  exact h
/-- What was put is got. -/
theorem some_enc (f : Nat → Cm) (n : Nat) (hn : n ≤ 1024) (hf : ∀ i, (f i).In) (hr : upR f n) : someA ⟨(encN (codeN (n : Int)) ++ flatB f n).toArray⟩ = .inr ((List.range n).map f) := by
  have hu := upT_enc n hn (flatB f n)
  have hs : someR ⟨(encN (codeN (n : Int)) ++ flatB f n).toArray⟩ = .inr ((List.range n).map f, (⟨#[]⟩, 0)) := by
    unfold someR
    rw [hu]
    simp only [Int.toNat_natCast]
    rw [flatB_list]
    have := someN_enc ((List.range n).map f) [] (fun c hc => by
      obtain ⟨i, hi, rfl⟩ := List.mem_map.1 hc
      exact ⟨hf i, hr i (List.mem_range.1 hi)⟩)
    rw [List.length_map, List.length_range] at this
    rw [this]
    simp
  unfold someA
  rw [hs]
  rfl
theorem someN_back : ∀ (n : Nat) (x : ByteArray × Int) (acc m : List Cm) (y : ByteArray × Int), someN n x acc = .inr (m, y) → ∃ l, m = acc ++ l ∧ l.length = n ∧ (∀ c, c ∈ l → c.In ∧ rightV c = true) ∧ x.1.data.toList = flatL l ++ y.1.data.toList ∧ (0 < n → y.2 = 0) ∧ (n = 0 → y = x)
  | 0, x, acc, m, y, h => by
    simp only [someN, Sum.inr.injEq, Prod.mk.injEq] at h
    obtain ⟨rfl, rfl⟩ := h
    exact ⟨[], by simp, rfl, by simp, by simp [flatL], by simp, fun _ => rfl⟩
  | n + 1, x, acc, m, y, h => by
    rw [someN] at h
    split at h
    · cases h
    · rename_i he
      have he : (readC x.1 x.2).2.2 = 0 := Classical.byContradiction he
      obtain ⟨l, h1, h2, h3, h4, h5, h6⟩ := someN_back n _ _ _ _ h
      obtain ⟨_, k2, k3, k4, k5⟩ := read_back x.1 x.2 he
      refine ⟨(readC x.1 x.2).1 :: l, by rw [h1]; simp, by simp [h2], ?_, ?_, ?_, by simp⟩
      · intro c hc
        rcases List.mem_cons.1 hc with rfl | hc
        · exact ⟨k3, k4⟩
        · exact h3 c hc
      · rw [k5, h4]
        simp [flatL]
      · intro _
        rcases Nat.eq_zero_or_pos n with hn | hn
        · rw [h6 hn]; exact k2
        · exact h5 hn
theorem upT_back {s : ByteArray} (h : (upT s).2.2 = 0) : s.data.toList = encN (codeN (upT s).1) ++ (upT s).2.1.data.toList := by
  unfold upT readV at *
  rw [if_neg (by simp)] at *
  cases hg : getR 0 s.data.toList with
  | short => rw [hg] at h; cases h
  | form => rw [hg] at h; cases h
  | ok v m =>
    rw [hg] at h
    simp only [] at h ⊢
    by_cases hu : uptoM 1024 (numN v) = 0
    · rw [if_pos hu]
      simp only []
      obtain ⟨h1, _, _, h4, _⟩ := enc_getR s.data.toList 0 v m (by decide) hg
      rw [codeN_num, ← h1]
      have e2 : (s.extract m s.size).data.toList = s.data.toList.drop m := by
        rw [ByteArray.data_extract]
        show (Array.extract s.data m s.data.size).toList = _
        simp
        exact List.take_of_length_le (by rw [List.length_drop]; exact Nat.le_refl _)
      rw [e2, List.take_append_drop]
    · rw [if_neg hu] at h
      exact absurd h hu
/-- What was got has just these bytes. -/
theorem some_back {s : ByteArray} {l : List Cm} (h : someA s = .inr l) : l.length ≤ 1024 ∧ (∀ c, c ∈ l → c.In ∧ rightV c = true) ∧ s = ⟨(encN (codeN (l.length : Int)) ++ flatL l).toArray⟩ := by
  unfold someA at h
  cases hr : someR s with
  | inl e => rw [hr] at h; cases h
  | inr p =>
    obtain ⟨m, y⟩ := p
    rw [hr] at h
    simp only [] at h
    split at h
    · cases h
    · rename_i hE
      have hE : endV y.1 y.2 = 0 := Classical.byContradiction hE
      injection h with h
      subst h
      obtain ⟨l', h1, h2, h3, h4, h5, h6⟩ := someN_back _ _ _ _ _ hr
      rw [List.nil_append] at h1
      subst h1
      have hin := upT_in s
      have hy2 : y.2 = 0 := by
        unfold endV at hE
        split at hE
        · rename_i hh
          exact absurd hE hh
        · rename_i hh
          exact Classical.byContradiction hh
      have hy : ¬ 0 < y.1.size := fun hz => by
        unfold endV at hE
        rw [hy2, if_neg (by simp), if_pos hz] at hE
        exact absurd hE (by decide)
      have hn : ((m.length : Nat) : Int) = (upT s).1 := by rw [h2]; omega
      have hu : (upT s).2.2 = 0 := by
        rcases Nat.eq_zero_or_pos (upT s).1.toNat with hz | hz
        · rw [← h6 hz]; exact hy2
        · refine Classical.byContradiction fun hne => ?_
          have : someN (upT s).1.toNat (upT s).2 [] = .inr (m, y) := hr
          obtain ⟨k, hk⟩ : ∃ k, (upT s).1.toNat = k + 1 := ⟨(upT s).1.toNat - 1, by omega⟩
          rw [hk, someN] at this
          split at this
          · cases this
          · rename_i hq
            have hq : (readC (upT s).2.1 (upT s).2.2).2.2 = 0 := Classical.byContradiction hq
            exact hne (read_back _ _ hq).1
      have hb := upT_back hu
      rw [h4, empty_of_size hy, ← hn] at hb
      refine ⟨by omega, h3, ?_⟩
      have hb2 : s.data.toList = encN (codeN (m.length : Int)) ++ flatL m := by rw [hb]; simp
      exact (ofl s).symm.trans (congrArg (fun l : List UInt8 => (⟨l.toArray⟩ : ByteArray)) hb2)
end Go.Proofs.Ytbpaongnehgodaa
