/- journal.Append, of a disk that is whole. -/
import Derived.Test.YtbpaongnehgodaaDoorJoApp
import Derived.Test.YtbpaongnehgodaaDoorJoMend
namespace Go.Proofs.YtbpaongnehgodaaDoor
open Go.ChangeShapes Go.WideShapes Go.ChangeAt Go.RowKit
set_option maxHeartbeats 8000000 in
theorem append_fail (s : ByteArray) (f : Int) (h : s.size ≤ 3000) (hf : -1 ≤ f ∧ f ≤ 9223372036854775807) (w : World) (htab : Tab w) (rs : List (List UInt8)) (er : Int) (hsc : scanR s.size s.data.toList = (rs, s.size, er)) (r : List UInt8) (hr : r.length ≤ 900) (S1 T1 : ByteArray) (F1 : Int) (D1 : Bool) (E1 : Int) (hw : opV s ⟨#[]⟩ f false 0 s (⟨#[]⟩ ++ ⟨(frameL r).toArray⟩) s (⟨#[]⟩ ++ ⟨(frameL r).toArray⟩) = .tuple #[.agg #[.string S1, .string T1, .int .i64 F1, .bool D1], .int .i64 E1]) (hE : E1 ≠ 0) :
    Calls Tryd.prog 8 #[.agg #[.string s, .string ⟨#[]⟩, .int .i64 f, .bool false], .string ⟨r.toArray⟩] w (Ret (.tuple #[.agg #[.string S1, .string T1, .int .i64 F1, .bool D1], .int .i64 E1]) w) := by
  have HP := Lib.hid (fun W (hW : Tab W) => put_any r (by omega) W hW)
  have hfl := frameL_length r
  have HWR := Lib.hid (fun W => dwrite_any s ⟨#[]⟩ f false ⟨by omega, by decide⟩ (by omega) ⟨(frameL r).toArray⟩ (by show (frameL r).length ≤ 4000; omega) W)
  rw [hw] at HWR
  have HX := Lib.hid (jboxes2 w (.cells #[.string s, .string ⟨#[]⟩, .int .i64 f, .bool false] 26) (.cells #[.string ⟨#[]⟩, .string ⟨#[]⟩, .int .i64 0, .bool false] 26))
  have HTB : Hid (∀ w', Below w.heap.size w w' → Tab w') := fun w' hb => Tab.below htab hb htab.lt
  have HFI := Lib.hid (fun (w1 : World) W (hi : ApI w w.heap.size (w1.heap.size + 1) w1.heap.size s f #[.func (.func 17) #[] #[.pointer (some ⟨w1.heap.size, 0, none⟩)], .func (.func 18) #[] #[.pointer (some ⟨w.heap.size, 0, none⟩)], .func (.func 20) #[] #[.pointer (some ⟨w.heap.size, 0, none⟩)]] W) =>
    first3_any _ _ _ _ _ _ _ _ _ _ (app1_ok w w.heap.size (w1.heap.size + 1) w1.heap.size s f _) (app2_ok w w.heap.size (w1.heap.size + 1) w1.heap.size s f _) (app3_ok w htab w.heap.size (w1.heap.size + 1) w1.heap.size s (by omega) f _ rs er hsc) (w1.heap.size + 1) 3 W hi (fun W' hi' => three_at hi'.k))
  have e3 : first3 0 0 0 = 0 := rfl
  rw [e3] at HFI
  obtain ⟨FR, hFR⟩ : ∃ FR, frameL r = FR := ⟨_, rfl⟩
  rw [hFR] at HP HWR
  unfold txt at HP
  clear hsc hw e3 htab hf h hr hfl hFR
  have d1 : (E1 == 0) = false := by simp [hE]
  have d2 : (E1 != 0) = true := by simp [hE]
  clear hE
  go_enter Tryd.func8, Tryd.ntmps8
  go_wp2_with fail
  refine (HP.out _ (HTB.out _ HX.out.2.2)).mono ?_
  rintro en w1 ⟨rfl, b1⟩
  have x1 := (b1.block _ (by simp; omega)).trans HX.out.1
  have y1 := (b1.block _ (by simp)).trans HX.out.2.1
  have B1 := Lib.hid (HX.out.2.2.trans (b1.mono (by simp; omega)))
  have HAP : Hid (ApI w w.heap.size (w1.heap.size + 1) w1.heap.size s f #[.func (.func 17) #[] #[.pointer (some ⟨w1.heap.size, 0, none⟩)], .func (.func 18) #[] #[.pointer (some ⟨w.heap.size, 0, none⟩)], .func (.func 20) #[] #[.pointer (some ⟨w.heap.size, 0, none⟩)]] ((w1.alloc (.cells #[.int .i64 0] 29)).alloc (.cells #[.func (.func 17) #[] #[.pointer (some ⟨w1.heap.size, 0, none⟩)], .func (.func 18) #[] #[.pointer (some ⟨w.heap.size, 0, none⟩)], .func (.func 20) #[] #[.pointer (some ⟨w.heap.size, 0, none⟩)]] 44))) := by
    obtain ⟨u1, u2, u3⟩ := jboxes2 w1 (.cells #[.int .i64 0] 29) (.cells #[.func (.func 17) #[] #[.pointer (some ⟨w1.heap.size, 0, none⟩)], .func (.func 18) #[] #[.pointer (some ⟨w.heap.size, 0, none⟩)], .func (.func 20) #[] #[.pointer (some ⟨w.heap.size, 0, none⟩)]] 44)
    exact ⟨(u3.block _ (lt_of_block x1)).trans x1, u2, u1, (u3.block _ (lt_of_block y1)).trans y1, B1.out.trans (u3.mono B1.out.size)⟩
  clear b1 x1 y1
  go_wp2_with fail
  refine (HFI.out w1 _ HAP.out).mono ?_
  rintro en w2 ⟨rfl, hi2⟩
  have X2 := Lib.hid hi2.d
  have Y2 := Lib.hid hi2.r
  have B2 := Lib.hid hi2.b
  obtain ⟨p0, p1, p2, p3⟩ := X2.out.cells
  clear hi2
  go_wp2_with fail
  refine (HWR.out _).mono ?_
  rintro en w3 ⟨rfl, b3⟩
  have X3 : Hid (w3.heap[w.heap.size]? = some (.cells #[.string s, .string ⟨#[]⟩, .int .i64 f, .bool false] 26 (0, 0))) := (b3.block _ (lt_of_block X2.out)).trans X2.out
  have Y3 := Lib.hid ((b3.block _ (lt_of_block Y2.out)).trans Y2.out)
  have B3 := Lib.hid (B2.out.trans (b3.mono B2.out.size))
  obtain ⟨q0, q1, q2, q3⟩ := four_read X3.out
  have f0 := four_free X3.out 0
  have f1 := four_free X3.out 1
  have f2 := four_free X3.out 2
  have f3 := four_free X3.out 3
  have hne : w.heap.size + 1 ≠ w.heap.size := by omega
  have X4 := Lib.hid (db_set (i := 3) (v := .bool D1) (db_set (i := 2) (v := .int .i64 F1) (db_set (i := 1) (v := .string T1) (db_set (i := 0) (v := .string S1) X3.out rfl) rfl) rfl) rfl)
  have Y4 := Lib.hid (four_other Y3.out hne (.string S1) (.string T1) (.int .i64 F1) (.bool D1))
  have B4 := Lib.hid (below_four B3.out (Nat.le_refl _) (.string S1) (.string T1) (.int .i64 F1) (.bool D1))
  obtain ⟨r0, r1, r2, r3⟩ := four_read X4.out
  obtain ⟨l0, l1, l2, l3⟩ := four_read Y4.out
  have g0 := four_free Y4.out 0
  have g1 := four_free Y4.out 1
  have g2 := four_free Y4.out 2
  have g3 := four_free Y4.out 3
  clear b3 p0 p1 p2 p3
  go_wp2_with fail
  obtain ⟨⟨z0, z1⟩, z2, z3⟩ := four_cells Y4.out (.string S1) (.string T1) (.int .i64 F1) (.bool D1)
  refine bodyPost_ret (v := .tuple #[.agg #[.string S1, .string T1, .int .i64 F1, .bool D1], .int .i64 E1]) (by simp [results, Tryd.results8, go_sem, z0, z1, z2, z3]) rfl ?_
  exact ⟨rfl, below_four B4.out (Nat.le_succ _) _ _ _ _⟩
set_option maxHeartbeats 8000000 in
theorem append_sync (s : ByteArray) (f : Int) (h : s.size ≤ 3000) (hf : -1 ≤ f ∧ f ≤ 9223372036854775807) (w : World) (htab : Tab w) (rs : List (List UInt8)) (er : Int) (hsc : scanR s.size s.data.toList = (rs, s.size, er)) (r : List UInt8) (hr : r.length ≤ 900) (S1 T1 : ByteArray) (F1 : Int) (D1 : Bool) (E1 : Int) (hw : opV s ⟨#[]⟩ f false 0 s (⟨#[]⟩ ++ ⟨(frameL r).toArray⟩) s (⟨#[]⟩ ++ ⟨(frameL r).toArray⟩) = .tuple #[.agg #[.string S1, .string T1, .int .i64 F1, .bool D1], .int .i64 E1]) (hE : E1 = 0) (hsm : Small S1 T1) (hF1 : -9223372036854775808 ≤ F1 ∧ F1 ≤ 9223372036854775807) (S2 T2 : ByteArray) (F2 : Int) (D2 : Bool) (E2 : Int) (hs2 : opV S1 T1 F1 D1 0 S1 T1 (S1 ++ T1) ⟨#[]⟩ = .tuple #[.agg #[.string S2, .string T2, .int .i64 F2, .bool D2], .int .i64 E2]) :
    Calls Tryd.prog 8 #[.agg #[.string s, .string ⟨#[]⟩, .int .i64 f, .bool false], .string ⟨r.toArray⟩] w (Ret (.tuple #[.agg #[.string S2, .string T2, .int .i64 F2, .bool D2], .int .i64 E2]) w) := by
  have HP := Lib.hid (fun W (hW : Tab W) => put_any r (by omega) W hW)
  have hfl := frameL_length r
  have HWR := Lib.hid (fun W => dwrite_any s ⟨#[]⟩ f false ⟨by omega, by decide⟩ (by omega) ⟨(frameL r).toArray⟩ (by show (frameL r).length ≤ 4000; omega) W)
  rw [hw] at HWR
  have HX := Lib.hid (jboxes2 w (.cells #[.string s, .string ⟨#[]⟩, .int .i64 f, .bool false] 26) (.cells #[.string ⟨#[]⟩, .string ⟨#[]⟩, .int .i64 0, .bool false] 26))
  have HTB : Hid (∀ w', Below w.heap.size w w' → Tab w') := fun w' hb => Tab.below htab hb htab.lt
  have HFI := Lib.hid (fun (w1 : World) W (hi : ApI w w.heap.size (w1.heap.size + 1) w1.heap.size s f #[.func (.func 17) #[] #[.pointer (some ⟨w1.heap.size, 0, none⟩)], .func (.func 18) #[] #[.pointer (some ⟨w.heap.size, 0, none⟩)], .func (.func 20) #[] #[.pointer (some ⟨w.heap.size, 0, none⟩)]] W) =>
    first3_any _ _ _ _ _ _ _ _ _ _ (app1_ok w w.heap.size (w1.heap.size + 1) w1.heap.size s f _) (app2_ok w w.heap.size (w1.heap.size + 1) w1.heap.size s f _) (app3_ok w htab w.heap.size (w1.heap.size + 1) w1.heap.size s (by omega) f _ rs er hsc) (w1.heap.size + 1) 3 W hi (fun W' hi' => three_at hi'.k))
  have e3 : first3 0 0 0 = 0 := rfl
  rw [e3] at HFI
  have HSY := Lib.hid (fun W => dsync_any S1 T1 F1 D1 hsm hF1 W)
  rw [hs2] at HSY
  obtain ⟨FR, hFR⟩ : ∃ FR, frameL r = FR := ⟨_, rfl⟩
  rw [hFR] at HP HWR
  unfold txt at HP
  subst hE
  clear hsc hw e3 htab hf h hr hfl hFR hs2 hsm hF1
  go_enter Tryd.func8, Tryd.ntmps8
  go_wp2_with fail
  refine (HP.out _ (HTB.out _ HX.out.2.2)).mono ?_
  rintro en w1 ⟨rfl, b1⟩
  have x1 := (b1.block _ (by simp; omega)).trans HX.out.1
  have y1 := (b1.block _ (by simp)).trans HX.out.2.1
  have B1 := Lib.hid (HX.out.2.2.trans (b1.mono (by simp; omega)))
  have HAP : Hid (ApI w w.heap.size (w1.heap.size + 1) w1.heap.size s f #[.func (.func 17) #[] #[.pointer (some ⟨w1.heap.size, 0, none⟩)], .func (.func 18) #[] #[.pointer (some ⟨w.heap.size, 0, none⟩)], .func (.func 20) #[] #[.pointer (some ⟨w.heap.size, 0, none⟩)]] ((w1.alloc (.cells #[.int .i64 0] 29)).alloc (.cells #[.func (.func 17) #[] #[.pointer (some ⟨w1.heap.size, 0, none⟩)], .func (.func 18) #[] #[.pointer (some ⟨w.heap.size, 0, none⟩)], .func (.func 20) #[] #[.pointer (some ⟨w.heap.size, 0, none⟩)]] 44))) := by
    obtain ⟨u1, u2, u3⟩ := jboxes2 w1 (.cells #[.int .i64 0] 29) (.cells #[.func (.func 17) #[] #[.pointer (some ⟨w1.heap.size, 0, none⟩)], .func (.func 18) #[] #[.pointer (some ⟨w.heap.size, 0, none⟩)], .func (.func 20) #[] #[.pointer (some ⟨w.heap.size, 0, none⟩)]] 44)
    exact ⟨(u3.block _ (lt_of_block x1)).trans x1, u2, u1, (u3.block _ (lt_of_block y1)).trans y1, B1.out.trans (u3.mono B1.out.size)⟩
  clear b1 x1 y1
  go_wp2_with fail
  refine (HFI.out w1 _ HAP.out).mono ?_
  rintro en w2 ⟨rfl, hi2⟩
  have X2 := Lib.hid hi2.d
  have Y2 := Lib.hid hi2.r
  have B2 := Lib.hid hi2.b
  obtain ⟨p0, p1, p2, p3⟩ := X2.out.cells
  clear hi2
  go_wp2_with fail
  refine (HWR.out _).mono ?_
  rintro en w3 ⟨rfl, b3⟩
  have X3 : Hid (w3.heap[w.heap.size]? = some (.cells #[.string s, .string ⟨#[]⟩, .int .i64 f, .bool false] 26 (0, 0))) := (b3.block _ (lt_of_block X2.out)).trans X2.out
  have Y3 := Lib.hid ((b3.block _ (lt_of_block Y2.out)).trans Y2.out)
  have B3 := Lib.hid (B2.out.trans (b3.mono B2.out.size))
  obtain ⟨q0, q1, q2, q3⟩ := four_read X3.out
  have f0 := four_free X3.out 0
  have f1 := four_free X3.out 1
  have f2 := four_free X3.out 2
  have f3 := four_free X3.out 3
  have hne : w.heap.size + 1 ≠ w.heap.size := by omega
  have X4 := Lib.hid (db_set (i := 3) (v := .bool D1) (db_set (i := 2) (v := .int .i64 F1) (db_set (i := 1) (v := .string T1) (db_set (i := 0) (v := .string S1) X3.out rfl) rfl) rfl) rfl)
  have Y4 := Lib.hid (four_other Y3.out hne (.string S1) (.string T1) (.int .i64 F1) (.bool D1))
  have B4 := Lib.hid (below_four B3.out (Nat.le_refl _) (.string S1) (.string T1) (.int .i64 F1) (.bool D1))
  obtain ⟨r0, r1, r2, r3⟩ := four_read X4.out
  obtain ⟨l0, l1, l2, l3⟩ := four_read Y4.out
  have g0 := four_free Y4.out 0
  have g1 := four_free Y4.out 1
  have g2 := four_free Y4.out 2
  have g3 := four_free Y4.out 3
  clear b3 p0 p1 p2 p3
  go_wp2_with fail
  refine (HSY.out _).mono ?_
  rintro en w5 ⟨rfl, b5⟩
  have X5 := Lib.hid ((b5.block _ (lt_of_block X4.out)).trans X4.out)
  have Y5 := Lib.hid ((b5.block _ (lt_of_block Y4.out)).trans Y4.out)
  have B5 := Lib.hid (B4.out.trans (b5.mono B4.out.size))
  clear q0 q1 q2 q3 f0 f1 f2 f3 r0 r1 r2 r3 l0 l1 l2 l3 g0 g1 g2 g3 b5
  obtain ⟨q0, q1, q2, q3⟩ := four_read X5.out
  have f0 := four_free X5.out 0
  have f1 := four_free X5.out 1
  have f2 := four_free X5.out 2
  have f3 := four_free X5.out 3
  have X6 := Lib.hid (db_set (i := 3) (v := .bool D2) (db_set (i := 2) (v := .int .i64 F2) (db_set (i := 1) (v := .string T2) (db_set (i := 0) (v := .string S2) X5.out rfl) rfl) rfl) rfl)
  have Y6 := Lib.hid (four_other Y5.out hne (.string S2) (.string T2) (.int .i64 F2) (.bool D2))
  have B6 := Lib.hid (below_four B5.out (Nat.le_refl _) (.string S2) (.string T2) (.int .i64 F2) (.bool D2))
  obtain ⟨r0, r1, r2, r3⟩ := four_read X6.out
  obtain ⟨l0, l1, l2, l3⟩ := four_read Y6.out
  have g0 := four_free Y6.out 0
  have g1 := four_free Y6.out 1
  have g2 := four_free Y6.out 2
  have g3 := four_free Y6.out 3
  go_wp2_with fail
  obtain ⟨⟨z0, z1⟩, z2, z3⟩ := four_cells Y6.out (.string S2) (.string T2) (.int .i64 F2) (.bool D2)
  refine bodyPost_ret (v := .tuple #[.agg #[.string S2, .string T2, .int .i64 F2, .bool D2], .int .i64 E2]) (by simp [results, Tryd.results8, go_sem, z0, z1, z2, z3]) rfl ?_
  exact ⟨rfl, below_four B6.out (Nat.le_succ _) _ _ _ _⟩
end Go.Proofs.YtbpaongnehgodaaDoor
