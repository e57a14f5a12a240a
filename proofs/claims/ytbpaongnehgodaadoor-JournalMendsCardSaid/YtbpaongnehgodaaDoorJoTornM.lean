/- What comes of a crash within Append. -/
import Derived.Test.YtbpaongnehgodaaDoorJoMade
namespace Go.Proofs.YtbpaongnehgodaaDoor
open Go.ChangeShapes Go.WideShapes Go.ChangeAt Go.RowKit
theorem front_same (s : ByteArray) : front s s.size = s := by
  unfold front
  apply ByteArray.ext
  rw [ByteArray.data_extract]
  simp
theorem ba_list (a b : List UInt8) : (⟨a.toArray⟩ : ByteArray) ++ ⟨b.toArray⟩ = ⟨(a ++ b).toArray⟩ := by
  apply ByteArray.ext
  simp
theorem ba_take (a : List UInt8) (k : Nat) : (⟨a.toArray⟩ : ByteArray).extract 0 k = ⟨(a.take k).toArray⟩ := by
  apply ByteArray.ext
  rw [ByteArray.data_extract]
  simp
/-- What is left when what is whole is left. -/
theorem cut_ok (s : ByteArray) (n : Nat) : ∃ S T F D, cutA s (-1) false n = .tuple #[.agg #[.string S, .string T, .int .i64 F, .bool D], .int .i64 0] := by
  unfold cutA
  split
  · exact ⟨_, _, _, _, rfl⟩
  · unfold opV
    rw [if_neg (by decide), if_neg (by decide), if_neg (by decide), if_neg (by decide)]
    exact ⟨_, _, _, _, rfl⟩
theorem torn_facts (l : List (List UInt8)) (hl : ∀ r, r ∈ l → r.length ≤ 100) (hsz : (framesL l).length ≤ 2000) (r : List UInt8) (hr : r.length ≤ 100) (f keep : Int) (hf0 : -1 ≤ f) :
    ∃ S1 T1 F1 D1 E1 S2 rs n er S3 T3 F3 D3, appV ⟨(framesL l).toArray⟩ ⟨(frameL r).toArray⟩ f = .tuple #[.agg #[.string S1, .string T1, .int .i64 F1, .bool D1], .int .i64 E1] ∧ Small S1 T1 ∧
      crashV S1 T1 F1 D1 keep = .tuple #[.agg #[.string S2, .string ⟨#[]⟩, .int .i64 (-1), .bool false], .int .i64 0] ∧ S2.size ≤ 4000 ∧ scanR S2.size S2.data.toList = (rs, n, er) ∧
      cutA S2 (-1) false n = .tuple #[.agg #[.string S3, .string T3, .int .i64 F3, .bool D3], .int .i64 0] ∧ (rs = l ++ [r] ∨ (rs = l ∧ E1 ≠ 0)) := by
  have hfl := frameL_length r
  have hl2 : ∀ x, x ∈ l → x.length ≤ 1024 := fun x hx => by have := hl x hx; omega
  have hb2 : ∀ x, x ∈ l ++ [r] → x.length ≤ 1024 := fun x hx => by
    rcases List.mem_append.1 hx with h1 | h1
    · exact hl2 x h1
    · obtain rfl : x = r := by simpa using h1
      omega
  have whole : scanR (⟨(framesL l ++ frameL r).toArray⟩ : ByteArray).size (⟨(framesL l ++ frameL r).toArray⟩ : ByteArray).data.toList = (l ++ [r], (framesL l ++ frameL r).length, 0) := by
    have := scan_frames (l ++ [r]) hb2
    rwa [framesL_snoc] at this
  by_cases hf : f = 0 ∨ f = 1
  · have e1 : appV ⟨(framesL l).toArray⟩ ⟨(frameL r).toArray⟩ f = .tuple #[.agg #[.string ⟨(framesL l).toArray⟩, .string ⟨(frameL r).toArray⟩, .int .i64 0, .bool true], .int .i64 16] := by unfold appV; rw [if_pos hf]
    have e2 : ∀ k, k = keptN ⟨(frameL r).toArray⟩ keep → crashV ⟨(framesL l).toArray⟩ ⟨(frameL r).toArray⟩ 0 true keep = .tuple #[.agg #[.string ⟨(framesL l ++ (frameL r).take k).toArray⟩, .string ⟨#[]⟩, .int .i64 (-1), .bool false], .int .i64 0] := fun k hk => by
      unfold crashV
      rw [if_neg (by decide), ← hk, ba_take, ba_list]
    have hkl : keptN ⟨(frameL r).toArray⟩ keep ≤ (frameL r).length := Nat.min_le_right _ _
    obtain ⟨k, hk⟩ : ∃ k, k = keptN ⟨(frameL r).toArray⟩ keep := ⟨_, rfl⟩
    rw [← hk] at hkl
    have hs1 : (⟨(framesL l).toArray⟩ : ByteArray).size = (framesL l).length := rfl
    have hs2 : (⟨(frameL r).toArray⟩ : ByteArray).size = (frameL r).length := rfl
    have hs3 : (⟨(framesL l ++ (frameL r).take k).toArray⟩ : ByteArray).size = (framesL l ++ (frameL r).take k).length := rfl
    by_cases hkk : k < 8 + r.length
    · obtain ⟨er, hsc⟩ := scan_part l hl2 r (by omega) k hkk
      obtain ⟨S3, T3, F3, D3, hc⟩ := cut_ok ⟨(framesL l ++ (frameL r).take k).toArray⟩ (framesL l).length
      refine ⟨_, _, _, _, _, _, l, _, er, S3, T3, F3, D3, e1, ⟨by rw [hs1]; omega, by rw [hs2]; omega⟩, e2 k hk, by rw [hs3, List.length_append, List.length_take]; omega, ?_, hc, Or.inr ⟨rfl, by decide⟩⟩
      rw [hs3]
      have : (framesL l ++ (frameL r).take k).length = (framesL l).length + k := by rw [List.length_append, List.length_take]; omega
      rw [this]
      exact hsc
    · have hke : (frameL r).take k = frameL r := List.take_of_length_le (by omega)
      have e3 := e2 k hk
      rw [hke] at e3
      obtain ⟨S3, T3, F3, D3, hc⟩ := cut_ok ⟨(framesL l ++ frameL r).toArray⟩ (framesL l ++ frameL r).length
      exact ⟨_, _, _, _, _, _, l ++ [r], _, 0, S3, T3, F3, D3, e1, ⟨by rw [hs1]; omega, by rw [hs2]; omega⟩, e3, by show (framesL l ++ frameL r).length ≤ 4000; rw [List.length_append]; omega, whole, hc, Or.inl rfl⟩
  · have e1 : appV ⟨(framesL l).toArray⟩ ⟨(frameL r).toArray⟩ f = .tuple #[.agg #[.string ⟨(framesL l ++ frameL r).toArray⟩, .string ⟨#[]⟩, .int .i64 (if f < 0 then f else f - 2), .bool false], .int .i64 0] := by unfold appV; rw [if_neg hf, ba_list]
    obtain ⟨S3, T3, F3, D3, hc⟩ := cut_ok ⟨(framesL l ++ frameL r).toArray⟩ (framesL l ++ frameL r).length
    refine ⟨_, _, _, _, _, ⟨(framesL l ++ frameL r).toArray⟩, l ++ [r], _, 0, S3, T3, F3, D3, e1, ⟨by show (framesL l ++ frameL r).length ≤ 4000; rw [List.length_append]; omega, by decide⟩, ?_, by show (framesL l ++ frameL r).length ≤ 4000; rw [List.length_append]; omega, whole, hc, Or.inl rfl⟩
    unfold crashV
    rw [if_neg (by split <;> omega)]
    have e5 : ∀ k, (⟨(framesL l ++ frameL r).toArray⟩ : ByteArray) ++ (⟨#[]⟩ : ByteArray).extract 0 k = ⟨(framesL l ++ frameL r).toArray⟩ := fun k => by
      apply ByteArray.ext
      simp [ByteArray.data_extract]
    rw [e5]
theorem same_len (ao bo : Option Addr) (n m cap cap2 : Nat) (h : n ≠ m) (hn : n ≤ 1000 ∧ m ≤ 1000) (w : World) : Calls Tryd.prog 11 #[.slice ao n cap, .slice bo m cap2] w (Ret (.bool false) w) := by
  have d1 : ((n : Int) != (m : Int)) = true := by rw [bne_iff_ne]; omega
  have d2 : ((n : Int) == (m : Int)) = false := by rw [beq_eq_false_iff_ne]; omega
  obtain ⟨h1, h2⟩ := hn
  clear h h1 h2
  go_enter Tryd.func11, Tryd.ntmps11
  go_wp2_with fail
  go_ret
  exact ⟨rfl, by go_grown⟩
end Go.Proofs.YtbpaongnehgodaaDoor
