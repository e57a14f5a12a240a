/- journal.Mend, of a disk that may be cut. -/
import Derived.Test.YtbpaongnehgodaaDoorJoRead
namespace Go.Proofs.YtbpaongnehgodaaDoor
open Go.ChangeShapes Go.WideShapes Go.ChangeAt Go.RowKit
/-- Mend tells a disk, an error, and the records, if there is none. -/
def MendP (w : World) (S T : ByteArray) (F : Int) (D : Bool) (E : Int) (rs : List (List UInt8)) (e : Ending) (w' : World) : Prop :=
  Below w.heap.size w w' ∧ ((E ≠ 0 ∧ e = .returned (.tuple #[.agg #[.string S, .string T, .int .i64 F, .bool D], .slice none 0 0, .int .i64 E])) ∨ (E = 0 ∧ ∃ ao cap, e = .returned (.tuple #[.agg #[.string S, .string T, .int .i64 F, .bool D], .slice ao rs.length cap, .int .i64 0]) ∧ StrsAt w' ao rs.length (texts rs) ∧ ∀ a, ao = some a → w.heap.size ≤ a.block))
theorem four_other {w : World} {g k : Nat} {o : Obj} (h : w.heap[g]? = some o) (hne : g ≠ k) (x y z u : Value) : ((((w.setCell ⟨k, 0, none⟩ x).setCell ⟨k, 1, none⟩ y).setCell ⟨k, 2, none⟩ z).setCell ⟨k, 3, none⟩ u).heap[g]? = some o :=
  (Below.heap_setCell _ _ _ _ hne).trans ((Below.heap_setCell _ _ _ _ hne).trans ((Below.heap_setCell _ _ _ _ hne).trans ((Below.heap_setCell _ _ _ _ hne).trans h)))
theorem StrsAt.four {w : World} {ao : Option Addr} {n k : Nat} {f : Nat → Value} (h : StrsAt w ao n f) (hne : ∀ a, ao = some a → a.block ≠ k) (x y z u : Value) : StrsAt ((((w.setCell ⟨k, 0, none⟩ x).setCell ⟨k, 1, none⟩ y).setCell ⟨k, 2, none⟩ z).setCell ⟨k, 3, none⟩ u) ao n f := fun hn => by
  obtain ⟨b, off, e, hlt, hc⟩ := h hn
  have hb : b ≠ k := hne _ e
  refine ⟨b, off, e, by simpa [World.setCell] using hlt, fun i hi => ?_⟩
  have h1 : ((((w.setCell ⟨k, 0, none⟩ x).setCell ⟨k, 1, none⟩ y).setCell ⟨k, 2, none⟩ z).setCell ⟨k, 3, none⟩ u).heap[b]? = w.heap[b]? := (Below.heap_setCell _ _ _ _ hb).trans ((Below.heap_setCell _ _ _ _ hb).trans ((Below.heap_setCell _ _ _ _ hb).trans (Below.heap_setCell _ _ _ _ hb)))
  have h2 := hc i hi
  simp only [World.cell?, h1] at h2 ⊢
  exact h2
theorem scan_le : ∀ (f : Nat) (L : List UInt8), (scanR f L).2.1 ≤ L.length
  | 0, L => by simp [scanR]
  | f + 1, L => by
    simp only [scanR]
    split
    · simp
    · cases hn : nextR L with
      | err e => simp
      | ok n =>
        obtain ⟨_, _, h3, _⟩ := nextR_ok hn
        have := scan_le f (L.drop (8 + n))
        simp only [List.length_drop] at this
        simp only []
        omega
set_option maxHeartbeats 8000000 in
theorem mend_any (s : ByteArray) (f : Int) (h : s.size ≤ 4000) (hf : -1 ≤ f ∧ f ≤ 9223372036854775807) (w : World) (htab : Tab w)
    (rs : List (List UInt8)) (n : Nat) (er : Int) (hsc : scanR s.size s.data.toList = (rs, n, er)) (S T : ByteArray) (F : Int) (D : Bool) (E : Int) (hcut : cutA s f false n = .tuple #[.agg #[.string S, .string T, .int .i64 F, .bool D], .int .i64 E]) :
    Calls Tryd.prog 10 #[.agg #[.string s, .string ⟨#[]⟩, .int .i64 f, .bool false]] w (MendP w S T F D E rs) := by
  have hn : n ≤ s.size := by
    have := scan_le s.size s.data.toList
    rw [hsc] at this
    simpa using this
  have HI := Lib.hid (fun W => idle_any s ⟨#[]⟩ f false ⟨h, by decide⟩ W)
  have eI : idleE ⟨#[]⟩ f false = 0 := by
    unfold idleE first3 dchk
    rw [if_neg (by omega : ¬ f < -1)]
    decide
  rw [eI] at HI
  have HR := Lib.hid (fun W (hW : Tab W) => jread_any s ⟨#[]⟩ f false (by omega) W hW)
  rw [hsc] at HR
  have HC := Lib.hid (fun W => jcut_any s f false h (by omega) n hn W)
  rw [hcut] at HC
  have HX := Lib.hid (jboxes2 w (.cells #[.string s, .string ⟨#[]⟩, .int .i64 f, .bool false] 26) (.cells #[.string ⟨#[]⟩, .string ⟨#[]⟩, .int .i64 0, .bool false] 26))
  have HTB : Hid (∀ w', Below w.heap.size w w' → Tab w') := fun w' hb => Tab.below htab hb htab.lt
  have n2 : (n : Int) ≤ 4000 := by omega
  clear hsc hcut eI htab hf h hn
  by_cases hE : E = 0
  · subst hE
    go_enter Tryd.func10, Tryd.ntmps10
    go_wp2_with fail
    refine (HI.out _).mono ?_
    rintro en w1 ⟨rfl, b1⟩
    have x1 := (b1.block _ (by simp; omega)).trans HX.out.1
    have y1 := (b1.block _ (by simp)).trans HX.out.2.1
    have B1 := Lib.hid (HX.out.2.2.trans (b1.mono (by simp; omega)))
    have X1 := Lib.hid x1
    have Y1 := Lib.hid y1
    obtain ⟨p0, p1, p2, p3⟩ := four_read X1.out
    have T1 := Lib.hid (HTB.out w1 B1.out)
    clear b1 x1 y1
    go_wp2_with fail
    refine (HR.out _ T1.out).mono ?_
    rintro en w2 ⟨b2, ao, cap, rfl, hst, hlo⟩
    have X2 := Lib.hid ((b2.block _ (lt_of_block X1.out)).trans X1.out)
    have Y2 := Lib.hid ((b2.block _ (lt_of_block Y1.out)).trans Y1.out)
    have B2 := Lib.hid (B1.out.trans (b2.mono B1.out.size))
    have S2 := Lib.hid hst
    have LO : Hid (∀ a, ao = some a → w.heap.size + 1 < a.block) := fun a ha => by have h9 := hlo a ha; have h8 := lt_of_block Y1.out; omega
    obtain ⟨q0, q1, q2, q3⟩ := four_read X2.out
    clear b2 hst hlo p0 p1 p2 p3
    go_wp2_with fail
    refine (HC.out _).mono ?_
    rintro en w3 ⟨rfl, b3⟩
    have X3 := Lib.hid ((b3.block _ (lt_of_block X2.out)).trans X2.out)
    have Y3 := Lib.hid ((b3.block _ (lt_of_block Y2.out)).trans Y2.out)
    have B3 := Lib.hid (B2.out.trans (b3.mono B2.out.size))
    have S3 := Lib.hid (S2.out.below b3)
    obtain ⟨p0, p1, p2, p3⟩ := four_read X3.out
    have f0 := four_free X3.out 0
    have f1 := four_free X3.out 1
    have f2 := four_free X3.out 2
    have f3 := four_free X3.out 3
    have hne : w.heap.size + 1 ≠ w.heap.size := by omega
    have X4 := Lib.hid (db_set (i := 3) (v := .bool D) (db_set (i := 2) (v := .int .i64 F) (db_set (i := 1) (v := .string T) (db_set (i := 0) (v := .string S) X3.out rfl) rfl) rfl) rfl)
    have Y4 := Lib.hid (four_other Y3.out hne (.string S) (.string T) (.int .i64 F) (.bool D))
    obtain ⟨r0, r1, r2, r3⟩ := four_read X4.out
    obtain ⟨l0, l1, l2, l3⟩ := four_read Y4.out
    have g0 := four_free Y4.out 0
    have g1 := four_free Y4.out 1
    have g2 := four_free Y4.out 2
    have g3 := four_free Y4.out 3
    clear b3 q0 q1 q2 q3
    go_wp2_with fail
    obtain ⟨⟨z0, z1⟩, z2, z3⟩ := four_cells Y4.out (.string S) (.string T) (.int .i64 F) (.bool D)
    refine bodyPost_ret (v := .tuple #[.agg #[.string S, .string T, .int .i64 F, .bool D], .slice ao rs.length cap, .int .i64 0]) (by simp [results, Tryd.results10, go_sem, z0, z1, z2, z3]) rfl ?_
    exact ⟨below_four (below_four B3.out (Nat.le_refl _) _ _ _ _) (Nat.le_succ _) _ _ _ _, Or.inr ⟨rfl, ao, cap, rfl, (S3.out.four (fun a ha => by have := LO.out a ha; omega) _ _ _ _).four (fun a ha => by have := LO.out a ha; omega) _ _ _ _, fun a ha => by have := LO.out a ha; omega⟩⟩
  · have d1 : (E == 0) = false := by simp [hE]
    have d2 : (E != 0) = true := by simp [hE]
    go_enter Tryd.func10, Tryd.ntmps10
    go_wp2_with fail
    refine (HI.out _).mono ?_
    rintro en w1 ⟨rfl, b1⟩
    have x1 := (b1.block _ (by simp; omega)).trans HX.out.1
    have y1 := (b1.block _ (by simp)).trans HX.out.2.1
    have B1 := Lib.hid (HX.out.2.2.trans (b1.mono (by simp; omega)))
    have X1 := Lib.hid x1
    have Y1 := Lib.hid y1
    obtain ⟨p0, p1, p2, p3⟩ := four_read X1.out
    have T1 := Lib.hid (HTB.out w1 B1.out)
    clear b1 x1 y1
    go_wp2_with fail
    refine (HR.out _ T1.out).mono ?_
    rintro en w2 ⟨b2, ao, cap, rfl, hst, hlo⟩
    have X2 := Lib.hid ((b2.block _ (lt_of_block X1.out)).trans X1.out)
    have Y2 := Lib.hid ((b2.block _ (lt_of_block Y1.out)).trans Y1.out)
    have B2 := Lib.hid (B1.out.trans (b2.mono B1.out.size))
    have S2 := Lib.hid hst
    have LO : Hid (∀ a, ao = some a → w.heap.size + 1 < a.block) := fun a ha => by have h9 := hlo a ha; have h8 := lt_of_block Y1.out; omega
    obtain ⟨q0, q1, q2, q3⟩ := four_read X2.out
    clear b2 hst hlo p0 p1 p2 p3
    go_wp2_with fail
    refine (HC.out _).mono ?_
    rintro en w3 ⟨rfl, b3⟩
    have X3 := Lib.hid ((b3.block _ (lt_of_block X2.out)).trans X2.out)
    have Y3 := Lib.hid ((b3.block _ (lt_of_block Y2.out)).trans Y2.out)
    have B3 := Lib.hid (B2.out.trans (b3.mono B2.out.size))
    have S3 := Lib.hid (S2.out.below b3)
    obtain ⟨p0, p1, p2, p3⟩ := four_read X3.out
    have f0 := four_free X3.out 0
    have f1 := four_free X3.out 1
    have f2 := four_free X3.out 2
    have f3 := four_free X3.out 3
    have hne : w.heap.size + 1 ≠ w.heap.size := by omega
    have X4 := Lib.hid (db_set (i := 3) (v := .bool D) (db_set (i := 2) (v := .int .i64 F) (db_set (i := 1) (v := .string T) (db_set (i := 0) (v := .string S) X3.out rfl) rfl) rfl) rfl)
    have Y4 := Lib.hid (four_other Y3.out hne (.string S) (.string T) (.int .i64 F) (.bool D))
    obtain ⟨r0, r1, r2, r3⟩ := four_read X4.out
    obtain ⟨l0, l1, l2, l3⟩ := four_read Y4.out
    have g0 := four_free Y4.out 0
    have g1 := four_free Y4.out 1
    have g2 := four_free Y4.out 2
    have g3 := four_free Y4.out 3
    clear b3 q0 q1 q2 q3
    go_wp2_with fail
    obtain ⟨⟨z0, z1⟩, z2, z3⟩ := four_cells Y4.out (.string S) (.string T) (.int .i64 F) (.bool D)
    refine bodyPost_ret (v := .tuple #[.agg #[.string S, .string T, .int .i64 F, .bool D], .slice none 0 0, .int .i64 E]) (by simp [results, Tryd.results10, go_sem, z0, z1, z2, z3]) rfl ?_
    exact ⟨below_four (below_four B3.out (Nat.le_refl _) _ _ _ _) (Nat.le_succ _) _ _ _ _, Or.inl ⟨hE, rfl⟩⟩
end Go.Proofs.YtbpaongnehgodaaDoor
