/- JournalMends, walked. -/
import Derived.Test.YtbpaongnehgodaaDoorJoMendM
import Derived.Test.YtbpaongnehgodaaDoorJoTorn
import Derived.Deep.RegionHeld3
namespace Go.Proofs.YtbpaongnehgodaaDoor
open Go.ChangeShapes Go.WideShapes Go.ChangeAt Go.RowKit
theorem mends_out (s : ByteArray) (f : Int) (hs : s.size ≤ 9223372036854775807) (h : 1500 < s.size ∨ f < -1) (w : World) (ht : Tab w) :
    Calls Tryd.prog 4 #[.string s, .int .i64 f] w (Ret (.bool true) w) := by
  have HA := Lib.hid (awake12_any w ht)
  by_cases h1 : 1500 < s.size
  · have d1 : decide (1500 < (s.size : Int)) = true := decide_eq_true (by omega)
    have d2 : decide (1500 < s.size) = true := decide_eq_true h1
    clear h h1 hs ht
    go_enter Tryd.func4, Tryd.ntmps4
    go_wp2_with fail
    refine HA.out.mono ?_
    rintro en w1 ⟨rfl, b1⟩
    go_wp2_with fail
    go_ret
    exact ⟨rfl, b1⟩
  · have d1 : decide (1500 < (s.size : Int)) = false := decide_eq_false (by omega)
    have d2 : decide (1500 < s.size) = false := decide_eq_false h1
    have d3 : decide (f < -1) = true := decide_eq_true (by omega)
    clear h h1 hs ht
    go_enter Tryd.func4, Tryd.ntmps4
    go_wp2_with fail
    refine HA.out.mono ?_
    rintro en w1 ⟨rfl, b1⟩
    go_wp2_with fail
    go_ret
    exact ⟨rfl, b1⟩
set_option maxHeartbeats 8000000 in
theorem mends_err (s : ByteArray) (hs : s.size ≤ 1500) (w : World) (ht : Tab w) (rs : List (List UInt8)) (n : Nat) (er : Int) (hsc : scanR s.size s.data.toList = (rs, n, er)) (hn : n ≠ s.size) :
    Calls Tryd.prog 4 #[.string s, .int .i64 0] w (Ret (.bool true) w) := by
  have hct : cutA s 0 false n = .tuple #[.agg #[.string s, .string ⟨#[]⟩, .int .i64 0, .bool true], .int .i64 16] := by
    unfold cutA opV
    rw [if_neg hn, if_neg (by decide), if_neg (by decide), if_neg (by decide), if_pos rfl]
  have HM := Lib.hid (mend_any s 0 (by omega) (by decide) w ht rs n er hsc _ _ _ _ _ hct)
  have HA := Lib.hid (fun W (h : Tab W) => awake12_any W h)
  have HTB : Hid (∀ w', Below w.heap.size w w' → Tab w') := fun w' hb => Tab.below ht hb ht.lt
  have d1 : decide (1500 < (s.size : Int)) = false := decide_eq_false (by omega)
  have d2 : decide (1500 < s.size) = false := decide_eq_false (by omega)
  have s2 : (s.size : Int) ≤ 1500 := by omega
  clear hs ht hsc hn hct
  go_enter Tryd.func4, Tryd.ntmps4
  go_wp2_with fail
  refine HM.out.mono ?_
  rintro en w1 ⟨b1, ⟨_, rfl⟩ | ⟨h0, _⟩⟩
  · have X1 := Lib.hid (heap_alloc_new w1 (.cells #[.string s, .string ⟨#[]⟩, .int .i64 0, .bool true] 26))
    have B1 : Hid (Below w.heap.size w (w1.alloc (.cells #[.string s, .string ⟨#[]⟩, .int .i64 0, .bool true] 26))) := b1.alloc b1.size _
    clear b1
    go_wp2_with fail
    refine (HA.out _ (HTB.out _ B1.out)).mono ?_
    rintro en w2 ⟨rfl, b2⟩
    have X2 := Lib.hid ((b2.block _ (lt_of_block X1.out)).trans X1.out)
    have B2 : Hid (Below w.heap.size w w2) := B1.out.trans (b2.mono B1.out.size)
    obtain ⟨c0, c1, c2, c3⟩ := four_read X2.out
    clear b2
    go_wp2_with fail
    go_ret
    exact ⟨rfl, B2.out⟩
  · exact absurd h0 (by decide)
theorem keepJ {w w' : World} {g : Nat} {o : Obj} (h : w.heap[g]? = some o) (hb : Below w.heap.size w w') : w'.heap[g]? = some o := (hb.block g (lt_of_block h)).trans h
set_option maxHeartbeats 16000000 in
theorem mends_ok (s : ByteArray) (hs : s.size ≤ 1500) (f : Int) (hf : -1 ≤ f ∧ f ≤ 9223372036854775807) (w : World) (ht : Tab w) (rs : List (List UInt8)) (n : Nat) (er : Int) (hsc : scanR s.size s.data.toList = (rs, n, er)) (F : Int) (hF : -1 ≤ F ∧ F ≤ 9223372036854775807) (X : ByteArray) (hX : s.extract 0 n = X) (hct : cutA s f false n = .tuple #[.agg #[.string X, .string ⟨#[]⟩, .int .i64 F, .bool false], .int .i64 0]) :
    Calls Tryd.prog 4 #[.string s, .int .i64 f] w (Ret (.bool true) w) := by
  obtain ⟨k1, k2, k3⟩ := front_scan hsc
  have hn : n ≤ s.size := by
    have := scan_le s.size s.data.toList
    rw [hsc] at this
    simpa using this
  have hXl : X = ⟨(framesL rs).toArray⟩ := hX.symm.trans k1
  have hXs : X.size = n := by rw [hXl]; exact k2
  have hsc2 : scanR X.size X.data.toList = (rs, n, 0) := by
    have := scan_frames rs k3
    rw [← hXl, k2] at this
    exact this
  have hct2 : cutA X F false n = .tuple #[.agg #[.string X, .string ⟨#[]⟩, .int .i64 F, .bool false], .int .i64 0] := by
    unfold cutA
    rw [if_pos hXs.symm]
  have HM := Lib.hid (mend_any s f (by omega) hf w ht rs n er hsc _ _ _ _ _ hct)
  have HM2 := Lib.hid (fun W (hW : Tab W) => mend_any X F (by omega) hF W hW rs n 0 hsc2 _ _ _ _ _ hct2)
  have HR := Lib.hid (fun W (hW : Tab W) => jread_any X ⟨#[]⟩ F false (by omega) W hW)
  rw [hsc2] at HR
  have HA := Lib.hid (fun W (h : Tab W) => awake12_any W h)
  have HTB : Hid (∀ w', Below w.heap.size w w' → Tab w') := fun w' hb => Tab.below ht hb ht.lt
  have hrl : rs.length ≤ 2000 := by
    have : ∀ l : List (List UInt8), l.length ≤ (framesL l).length := fun l => by
      induction l with
      | nil => simp
      | cons x l ih => simp only [framesL, List.length_append, frameL_length, List.length_cons]; omega
    have := this rs
    omega
  have HSM := Lib.hid (fun ao bo c1 c2 W (h1 : StrsAt W ao rs.length (texts rs)) (h2 : StrsAt W bo rs.length (texts rs)) => by
    rw [texts_string] at h1 h2
    exact same_any rs.length c1 c2 ao bo _ (by omega) W h1 h2)
  have d1 : decide (1500 < (s.size : Int)) = false := decide_eq_false (by omega)
  have d2 : decide (1500 < s.size) = false := decide_eq_false (by omega)
  have d3 : decide (f < -1) = false := decide_eq_false (by omega)
  have d4 : decide ((n : Int) ≤ (s.size : Int)) = true := decide_eq_true (by omega)
  have d5 : decide (n ≤ s.size) = true := decide_eq_true hn
  have s2 : (s.size : Int) ≤ 1500 := by omega
  have n2 : (n : Int) ≤ s.size := by omega
  clear hs ht hsc hsc2 hct hct2 k1 k2 k3 hXl hrl hf hF
  go_enter Tryd.func4, Tryd.ntmps4
  go_wp2_with fail
  refine HM.out.mono ?_
  rintro en w1 ⟨b1, ⟨h0, _⟩ | ⟨_, lo, lc, rfl, hst, _⟩⟩
  · exact absurd rfl h0
  have X1 := Lib.hid (heap_alloc_new w1 (.cells #[.string X, .string ⟨#[]⟩, .int .i64 F, .bool false] 26))
  have B1 : Hid (Below w.heap.size w (w1.alloc (.cells #[.string X, .string ⟨#[]⟩, .int .i64 F, .bool false] 26))) := b1.alloc b1.size _
  have L1 := Lib.hid (hst.below ((Below.refl w1.heap.size w1).alloc (Nat.le_refl _) (.cells #[.string X, .string ⟨#[]⟩, .int .i64 F, .bool false] 26)))
  clear b1 hst
  go_wp2_with fail
  refine (HM2.out _ (HTB.out _ B1.out)).mono ?_
  rintro en w2 ⟨b2, ⟨h0, _⟩ | ⟨_, mo, mc, rfl, hst, _⟩⟩
  · exact absurd rfl h0
  have b2' : Below w2.heap.size w2 (w2.alloc (.cells #[.string X, .string ⟨#[]⟩, .int .i64 F, .bool false] 26)) := (Below.refl w2.heap.size w2).alloc (Nat.le_refl _) _
  have X2 := Lib.hid (keepJ (keepJ X1.out b2) b2')
  have Y2 := Lib.hid (heap_alloc_new w2 (.cells #[.string X, .string ⟨#[]⟩, .int .i64 F, .bool false] 26))
  have B2 : Hid (Below w.heap.size w (w2.alloc (.cells #[.string X, .string ⟨#[]⟩, .int .i64 F, .bool false] 26))) := (B1.out.trans (b2.mono B1.out.size)).trans (b2'.mono (Nat.le_trans B1.out.size b2.size))
  have L2 := Lib.hid ((L1.out.below b2).below b2')
  have M2 := Lib.hid (hst.below b2')
  obtain ⟨c0, c1, c2, c3⟩ := four_read X2.out
  clear b2 b2' hst
  go_wp2_with fail
  refine (HR.out _ (HTB.out _ B2.out)).mono ?_
  rintro en w3 ⟨b3, ro, rc, rfl, hst, _⟩
  have X3 := Lib.hid (keepJ X2.out b3)
  have Y3 := Lib.hid (keepJ Y2.out b3)
  have B3 := Lib.hid (B2.out.trans (b3.mono B2.out.size))
  have L3 := Lib.hid (L2.out.below b3)
  have M3 := Lib.hid (M2.out.below b3)
  have R3 := Lib.hid hst
  obtain ⟨p0, p1, p2, p3⟩ := four_read X3.out
  obtain ⟨q0, q1, q2, q3⟩ := four_read Y3.out
  clear b3 hst c0 c1 c2 c3
  go_wp2_with fail
  go_region_held3 (fun w' => w'.cell? ⟨w1.heap.size, 0, none⟩ = some (.string X) ∧ w'.cell? ⟨w1.heap.size, 1, none⟩ = some (.string ⟨#[]⟩) ∧ w'.cell? ⟨w1.heap.size, 2, none⟩ = some (.int .i64 F) ∧ w'.cell? ⟨w1.heap.size, 3, none⟩ = some (.bool false) ∧ w'.cell? ⟨w2.heap.size, 0, none⟩ = some (.string X) ∧ w'.cell? ⟨w2.heap.size, 1, none⟩ = some (.string ⟨#[]⟩) ∧ w'.cell? ⟨w2.heap.size, 2, none⟩ = some (.int .i64 F) ∧ w'.cell? ⟨w2.heap.size, 3, none⟩ = some (.bool false)) (go_keep) (first | (go_at_call 6; refine (HA.out _ (by exact HTB.out _ B3.out.drew)).mono ?_; rintro e w4 ⟨rfl, h4⟩; (have g4 : Below w3.heap.size w3 w4 := (Below.refl _ _).drew.trans h4); (have B4 := Lib.hid (B3.out.trans (g4.mono B3.out.size))); (have X4 := Lib.hid (keepJ X3.out g4)); (have Y4 := Lib.hid (keepJ Y3.out g4)); (have L4 := Lib.hid (L3.out.below g4)); (have M4 := Lib.hid (M3.out.below g4)); (have R4 := Lib.hid (R3.out.below g4)); obtain ⟨a0, a1, a2, a3⟩ := four_read X4.out; obtain ⟨e0, e1, e2, e3⟩ := four_read Y4.out; clear h4 g4) | (go_at_call_of 11 mo; refine (HSM.out lo mo lc mc _ (by exact L4.out) (by exact M4.out)).mono ?_; rintro e w5 ⟨rfl, h5⟩; (have B5 := Lib.hid (B4.out.trans (h5.mono B4.out.size))); (have X5 := Lib.hid (keepJ X4.out h5)); (have Y5 := Lib.hid (keepJ Y4.out h5)); (have L5 := Lib.hid (L4.out.below h5)); (have R5 := Lib.hid (R4.out.below h5)); obtain ⟨i0, i1, i2, i3⟩ := four_read X5.out; obtain ⟨j0, j1, j2, j3⟩ := four_read Y5.out; clear h5) | (go_at_call_of 11 ro; refine (HSM.out ro lo rc lc _ (by exact R5.out) (by exact L5.out)).mono ?_; rintro e w6 ⟨rfl, h6⟩; (have B6 := Lib.hid (B5.out.trans (h6.mono B5.out.size))); obtain ⟨u0, u1, u2, u3⟩ := four_read (keepJ X5.out h6); obtain ⟨v0, v1, v2, v3⟩ := four_read (keepJ Y5.out h6); clear h6))
  all_goals
    clear a0 a1 a2 a3 e0 e1 e2 e3 i0 i1 i2 i3 j0 j1 j2 j3 u0 u1 u2 u3 v0 v1 v2 v3 p0 p1 p2 p3 q0 q1 q2 q3
    go_wp2_with fail
    go_ret
    exact ⟨rfl, B6.out⟩
theorem mends_any (s : ByteArray) (hs : s.size ≤ 1500) (f : Int) (hf : -1 ≤ f ∧ f ≤ 9223372036854775807) (w : World) (ht : Tab w) :
    Calls Tryd.prog 4 #[.string s, .int .i64 f] w (Ret (.bool true) w) := by
  obtain ⟨⟨rs, n, er⟩, hsc⟩ : ∃ A, scanR s.size s.data.toList = A := ⟨_, rfl⟩
  by_cases hn : n = s.size
  · refine mends_ok s hs f hf w ht rs n er hsc f hf (s.extract 0 n) rfl ?_
    have e : s.extract 0 n = s := by rw [hn]; exact front_same s
    rw [e]
    unfold cutA
    rw [if_pos hn]
  · by_cases h0 : f = 0
    · subst h0
      exact mends_err s hs w ht rs n er hsc hn
    · refine mends_ok s hs f hf w ht rs n er hsc (if 0 < f then f - 1 else f) (by split <;> omega) (s.extract 0 n) rfl ?_
      unfold cutA opV
      rw [if_neg hn, if_neg (by omega), if_neg (by decide), if_neg (by decide), if_neg h0]
      rfl
end Go.Proofs.YtbpaongnehgodaaDoor
