/- What Append leaves; the page's example. -/
import Derived.Test.YtbpaongnehgodaaDoorJoAppF
namespace Go.Proofs.YtbpaongnehgodaaDoor
open Go.ChangeShapes Go.WideShapes Go.ChangeAt Go.RowKit
theorem nil_append (x : ByteArray) : (⟨#[]⟩ : ByteArray) ++ x = x := by
  apply ByteArray.ext
  simp
/-- What Append answers: if the power goes, the frame waits. -/
def appV (s fr : ByteArray) (f : Int) : Value :=
  if f = 0 ∨ f = 1 then .tuple #[.agg #[.string s, .string fr, .int .i64 0, .bool true], .int .i64 16] else .tuple #[.agg #[.string (s ++ fr), .string ⟨#[]⟩, .int .i64 (if f < 0 then f else f - 2), .bool false], .int .i64 0]
theorem japp_any (s : ByteArray) (f : Int) (h : s.size ≤ 3000) (hf : -1 ≤ f ∧ f ≤ 9223372036854775807) (w : World) (htab : Tab w) (rs : List (List UInt8)) (er : Int) (hsc : scanR s.size s.data.toList = (rs, s.size, er)) (r : List UInt8) (hr : r.length ≤ 900) :
    Calls Tryd.prog 8 #[.agg #[.string s, .string ⟨#[]⟩, .int .i64 f, .bool false], .string ⟨r.toArray⟩] w (Ret (appV s ⟨(frameL r).toArray⟩ f) w) := by
  have hfl := frameL_length r
  have hfs : (⟨(frameL r).toArray⟩ : ByteArray).size ≤ 1000 := by show (frameL r).length ≤ 1000; omega
  by_cases h0 : f = 0
  · subst h0
    have e : appV s ⟨(frameL r).toArray⟩ 0 = .tuple #[.agg #[.string s, .string ⟨(frameL r).toArray⟩, .int .i64 0, .bool true], .int .i64 16] := by unfold appV; rw [if_pos (Or.inl rfl)]
    rw [e]
    exact append_fail s 0 h hf w htab rs er hsc r hr s ⟨(frameL r).toArray⟩ 0 true 16 (by rw [nil_append]; unfold opV; rw [if_neg (by decide), if_neg (by decide), if_neg (by decide), if_pos rfl]) (by decide)
  · have hw : opV s ⟨#[]⟩ f false 0 s (⟨#[]⟩ ++ ⟨(frameL r).toArray⟩) s (⟨#[]⟩ ++ ⟨(frameL r).toArray⟩) = .tuple #[.agg #[.string s, .string ⟨(frameL r).toArray⟩, .int .i64 (if 0 < f then f - 1 else f), .bool false], .int .i64 0] := by
      rw [nil_append]; unfold opV; rw [if_neg (by omega), if_neg (by decide), if_neg (by decide), if_neg h0]
    by_cases h1 : f = 1
    · subst h1
      have e : appV s ⟨(frameL r).toArray⟩ 1 = .tuple #[.agg #[.string s, .string ⟨(frameL r).toArray⟩, .int .i64 0, .bool true], .int .i64 16] := by unfold appV; rw [if_pos (Or.inr rfl)]
      rw [e]
      exact append_sync s 1 h hf w htab rs er hsc r hr _ _ _ _ _ hw rfl ⟨by omega, by omega⟩ (by decide) s ⟨(frameL r).toArray⟩ 0 true 16 (by unfold opV; rw [if_neg (by decide), if_neg (by decide), if_neg (by decide), if_pos (by decide)])
    · have e : appV s ⟨(frameL r).toArray⟩ f = .tuple #[.agg #[.string (s ++ ⟨(frameL r).toArray⟩), .string ⟨#[]⟩, .int .i64 (if f < 0 then f else f - 2), .bool false], .int .i64 0] := by unfold appV; rw [if_neg (by omega)]
      rw [e]
      refine append_sync s f h hf w htab rs er hsc r hr _ _ _ _ _ hw rfl ⟨by omega, by omega⟩ (by split <;> omega) _ _ _ _ _ ?_
      by_cases hp : 0 < f
      · rw [if_pos hp, if_neg (by omega : ¬ f < 0)]
        unfold opV
        rw [if_neg (by omega), if_neg (by decide), if_neg (by decide), if_neg (by omega), if_pos (by omega)]
        rw [show f - 1 - 1 = f - 2 by omega]
      · rw [if_neg hp, if_pos (by omega : f < 0)]
        unfold opV
        rw [if_neg (by omega), if_neg (by decide), if_neg (by decide), if_neg (by omega), if_neg (by omega)]
theorem framesL_snoc (a : List (List UInt8)) (r : List UInt8) : framesL (a ++ [r]) = framesL a ++ frameL r := by
  induction a with
  | nil => simp [framesL]
  | cons x l ih => simp [framesL, ih]
theorem wholeL_part (r : List UInt8) (j : Nat) (hj : j < 8 + r.length) : ∀ l : List (List UInt8), wholeL ((framesL l).length + j) (l ++ [r]) = (l.length, (framesL l).length)
  | [] => by
    simp only [framesL, List.length_nil, Nat.zero_add, List.nil_append, wholeL]
    rw [if_neg (by omega)]
  | x :: l => by
    have ih := wholeL_part r j hj l
    simp only [framesL, List.cons_append, wholeL, List.length_append, frameL_length]
    rw [if_pos (by omega), show 8 + x.length + (framesL l).length + j - (8 + x.length) = (framesL l).length + j by omega, ih]
    refine Prod.ext ?_ ?_
    · simp
    · show (framesL l).length + (8 + x.length) = 8 + x.length + (framesL l).length
      omega
theorem wholeL_all : ∀ l : List (List UInt8), wholeL (framesL l).length l = (l.length, (framesL l).length)
  | [] => rfl
  | x :: l => by
    have ih := wholeL_all l
    simp only [framesL, wholeL, List.length_append, frameL_length]
    rw [if_pos (by omega), show 8 + x.length + (framesL l).length - (8 + x.length) = (framesL l).length by omega, ih]
    refine Prod.ext ?_ ?_
    · simp
    · show (framesL l).length + (8 + x.length) = 8 + x.length + (framesL l).length
      omega
/-- A journal's frames are whole. -/
theorem scan_frames (l : List (List UInt8)) (h : ∀ r, r ∈ l → r.length ≤ 1024) : scanR (⟨(framesL l).toArray⟩ : ByteArray).size (⟨(framesL l).toArray⟩ : ByteArray).data.toList = (l, (framesL l).length, 0) := by
  have hs : (⟨(framesL l).toArray⟩ : ByteArray).size = (framesL l).length := rfl
  have ht := scan_torn l (framesL l).length (framesL l).length h (Nat.le_refl _) (Nat.le_refl _)
  rw [wholeL_all, List.take_length, List.take_length, if_neg (Nat.lt_irrefl _)] at ht
  rw [hs]
  exact ht
/-- A frame behind them is cut off. -/
theorem scan_part (l : List (List UInt8)) (h : ∀ r, r ∈ l → r.length ≤ 1024) (r : List UInt8) (hr : r.length ≤ 1024) (j : Nat) (hj : j < 8 + r.length) : ∃ e, scanR ((framesL l).length + j) (framesL l ++ (frameL r).take j) = (l, (framesL l).length, e) := by
  have hb : ∀ x, x ∈ l ++ [r] → x.length ≤ 1024 := fun x hx => by
    rcases List.mem_append.1 hx with h1 | h1
    · exact h x h1
    · obtain rfl : x = r := by simpa using h1
      exact hr
  have ht := scan_torn (l ++ [r]) ((framesL l).length + j) ((framesL l).length + j) hb (by rw [framesL_snoc, List.length_append, frameL_length]; omega) (Nat.le_refl _)
  rw [wholeL_part r j hj, framesL_snoc] at ht
  have e1 : (framesL l ++ frameL r).take ((framesL l).length + j) = framesL l ++ (frameL r).take j := by
    rw [List.take_append, List.take_of_length_le (by omega), Nat.add_sub_cancel_left]
  have e2 : (l ++ [r]).take l.length = l := by simp
  rw [e1] at ht
  simp only [e2] at ht
  exact ⟨_, ht⟩
set_option maxHeartbeats 4000000 in
theorem awake12_any (w : World) (ht : Tab w) : Calls Tryd.prog 6 #[] w (Ret (.bool true) w) := by
  have HA := Lib.hid (japp_any ⟨#[]⟩ (-1) (by decide) (by decide) w ht [] 0 (by decide) [97] (by decide))
  have e1 : appV ⟨#[]⟩ ⟨(frameL [97]).toArray⟩ (-1) = .tuple #[.agg #[.string ⟨#[0, 0, 0, 1, 232, 183, 190, 67, 97]⟩, .string ⟨#[]⟩, .int .i64 (-1), .bool false], .int .i64 0] := by
    unfold appV
    rw [if_neg (by decide), if_pos (by decide), nil_append, frameA]
  rw [e1] at HA
  have HR := Lib.hid (fun W (h : Tab W) => jread_any ⟨#[0, 0, 0, 1, 232, 183, 190, 67, 97]⟩ ⟨#[]⟩ (-1) false (by decide) W h)
  have e2 : scanR (⟨#[0, 0, 0, 1, 232, 183, 190, 67, 97]⟩ : ByteArray).size (⟨#[0, 0, 0, 1, 232, 183, 190, 67, 97]⟩ : ByteArray).data.toList = ([[97]], 9, 0) := by
    have := scan_frames [[97]] (by decide)
    rw [show framesL [[97]] = [0, 0, 0, 1, 232, 183, 190, 67, 97] by simp [framesL, frameA]] at this
    exact this
  rw [e2] at HR
  have HTB : Hid (∀ w', Below w.heap.size w w' → Tab w') := fun w' hb => Tab.below ht hb ht.lt
  clear e1 e2 ht
  go_enter Tryd.func6, Tryd.ntmps6
  go_wp2_with fail
  refine HA.out.mono ?_
  rintro en w1 ⟨rfl, b1⟩
  have B1 := Lib.hid b1
  have HX := Lib.hid (heap_alloc_new w1 (.cells #[.string ⟨#[0, 0, 0, 1, 232, 183, 190, 67, 97]⟩, .string ⟨#[]⟩, .int .i64 (-1), .bool false] 26))
  have B2 : Hid (Below w.heap.size w (w1.alloc (.cells #[.string ⟨#[0, 0, 0, 1, 232, 183, 190, 67, 97]⟩, .string ⟨#[]⟩, .int .i64 (-1), .bool false] 26))) := b1.alloc b1.size _
  clear b1
  go_wp2_with fail
  refine (HR.out _ (HTB.out _ B2.out)).mono ?_
  rintro en w2 ⟨b2, ao, cap, rfl, hst, _⟩
  obtain ⟨b, off, rfl, _, hc⟩ := hst (by decide)
  have c0 := hc 0 (by decide)
  have X2 := Lib.hid ((b2.block _ (lt_of_block HX.out)).trans HX.out)
  obtain ⟨p0, p1, p2, p3⟩ := four_read X2.out
  have B3 := Lib.hid (B2.out.trans (b2.mono B2.out.size))
  have c0' : w2.cell? ⟨b, off, none⟩ = some (.string ⟨#[97]⟩) := c0
  clear b2 hst hc c0
  go_wp2_with fail
  go_ret
  exact ⟨rfl, B3.out⟩
end Go.Proofs.YtbpaongnehgodaaDoor
