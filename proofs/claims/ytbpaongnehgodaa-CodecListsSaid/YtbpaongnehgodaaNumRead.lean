/- Readers: Num, Upto, Text. -/
import Derived.Test.YtbpaongnehgodaaNumRd
import Derived.Shelf.Abstract
namespace Go.Proofs.Ytbpaongnehgodaa
open Go.ChangeShapes Go.WideShapes Go.ChangeAt Go.RowKit
/-- What a reading tells, and what is left, and the first error. -/
def readV (may : Int → ByteArray → Int) (s : ByteArray) (e : Int) : Int × ByteArray × Int :=
  if e ≠ 0 then (0, s, e) else
  match getR 0 s.data.toList with
  | .short => (0, s, 4)
  | .form => (0, s, 3)
  | .ok v m => if may (numN v) (s.extract m s.size) = 0 then (numN v, s.extract m s.size, 0) else (0, s, may (numN v) (s.extract m s.size))
/-- It told x, and the reader is as it then is. -/
def Reads (T g : Nat) (w : World) (x : Value) (s : ByteArray) (e : Int) (en : Ending) (w' : World) : Prop := en = .returned x ∧ Gr g w w' ∧ RAt T w' g s e
theorem extract_le (s : ByteArray) (m : Nat) : (s.extract m s.size).size ≤ s.size := by
  rw [ByteArray.size_extract]; omega
set_option maxHeartbeats 1000000 in
theorem read_any {gf : Nat} {caps : Array Value} {may : Int → ByteArray → Int} {Inv : World → Prop} (HC : MayOk gf caps may Inv) (g : Nat) (s : ByteArray) (e : Int) (hs : s.size ≤ 1000000) (w : World) (hR : RAt 68 w g s e) (hI : ∀ q, Below w.heap.size w q → Inv q) :
    Calls Try.prog 45 #[ptr g, .func (.func gf) #[] caps] w (Reads 68 g w (.int .i64 (readV may s e).1) (readV may s e).2.1 (readV may s e).2.2) := by
  have HE := Lib.hid (err_any g s e w hR)
  have eg := HC.enter
  by_cases he : e = 0
  · subst he
    have c0 := hR.c0
    have HG := Lib.hid (get_any s hs w)
    obtain ⟨G, hG⟩ : ∃ G, getR 0 s.data.toList = G := ⟨_, rfl⟩
    rw [hG] at HG
    have HR := Lib.hid hR
    cases G with
    | short =>
      have HV : Hid (readV may s 0 = (0, s, 4)) := by show _ = _; unfold readV; rw [if_neg (by simp), hG]
      unfold getV at HG
      clear hG hs hI hR
      go_enter Try.func45, Try.ntmps45
      go_wp2_with fail
      refine HE.out.mono ?_
      rintro e w1 ⟨rfl, rfl⟩
      go_wp2_with fail
      refine HG.out.mono ?_
      rintro e w1 ⟨rfl, h1⟩
      have f1 := (HR.out.below h1).f 1
      have c1 := (HR.out.below h1).c1
      have HR1 := Lib.hid (HR.out.below h1)
      have H1 := Lib.hid (gr_below (g := g) h1)
      clear h1 c0
      go_wp2
      go_ret
      rw [HV.out]
      exact ⟨rfl, gr_set H1.out _ _, HR1.out.set1 4⟩
    | form =>
      have HV : Hid (readV may s 0 = (0, s, 3)) := by show _ = _; unfold readV; rw [if_neg (by simp), hG]
      unfold getV at HG
      clear hG hs hI hR
      go_enter Try.func45, Try.ntmps45
      go_wp2_with fail
      refine HE.out.mono ?_
      rintro e w1 ⟨rfl, rfl⟩
      go_wp2_with fail
      refine HG.out.mono ?_
      rintro e w1 ⟨rfl, h1⟩
      have f1 := (HR.out.below h1).f 1
      have c1 := (HR.out.below h1).c1
      have HR1 := Lib.hid (HR.out.below h1)
      have H1 := Lib.hid (gr_below (g := g) h1)
      clear h1 c0
      go_wp2
      go_ret
      rw [HV.out]
      exact ⟨rfl, gr_set H1.out _ _, HR1.out.set1 3⟩
    | ok v m =>
      have HI := Lib.hid hI
      have HM := Lib.hid (fun W hW => HC.calls W hW (numN v) (s.extract m s.size) (Nat.le_trans (extract_le s m) hs))
      have HGV : Hid (Calls Try.prog 50 #[.string s] w (Ret (.tuple #[.int .i64 (numN v), .string (s.extract m s.size), .int .i64 0]) w)) := HG.out
      by_cases hm : may (numN v) (s.extract m s.size) = 0
      · have HV : Hid (readV may s 0 = (numN v, s.extract m s.size, 0)) := by show _ = _; unfold readV; rw [if_neg (by simp), hG]; simp only []; rw [if_pos hm]
        rw [hm] at HM
        clear hG hs hI hR HG hm
        generalize numN v = x at *
        generalize s.extract m s.size = t at *
        go_enter Try.func45, Try.ntmps45
        go_wp2_with fail
        refine HE.out.mono ?_
        rintro e w1 ⟨rfl, rfl⟩
        go_wp2_with fail
        refine HGV.out.mono ?_
        rintro e w1 ⟨rfl, h1⟩
        have f0 := (HR.out.below h1).f 0
        have c0' := (HR.out.below h1).c0
        have HR1 := Lib.hid (HR.out.below h1)
        have HM1 := Lib.hid (HM.out w1 (HI.out w1 h1))
        have H1 := Lib.hid (gr_below (g := g) h1)
        clear h1 c0
        go_wp2_with (go_at_fn gf; refine HM1.out.mono ?_; rintro e w2 ⟨rfl, rfl⟩)
        go_ret
        rw [HV.out]
        exact ⟨rfl, gr_set H1.out _ _, HR1.out.set0 t⟩
      · have HV : Hid (readV may s 0 = (0, s, may (numN v) (s.extract m s.size))) := by show _ = _; unfold readV; rw [if_neg (by simp), hG]; simp only []; rw [if_neg hm]
        obtain ⟨u, hu⟩ : ∃ u, may (numN v) (s.extract m s.size) = u := ⟨_, rfl⟩
        rw [hu] at HM HV hm
        have d : (u == 0) = false := by rw [beq_eq_false_iff_ne]; exact hm
        have d' : (u != 0) = true := by simp [bne, d]
        clear hG hs hI hR HG hm hu
        generalize numN v = x at *
        generalize s.extract m s.size = t at *
        go_enter Try.func45, Try.ntmps45
        go_wp2_with fail
        refine HE.out.mono ?_
        rintro e w1 ⟨rfl, rfl⟩
        go_wp2_with fail
        refine HGV.out.mono ?_
        rintro e w1 ⟨rfl, h1⟩
        have f1 := (HR.out.below h1).f 1
        have c1 := (HR.out.below h1).c1
        have HR1 := Lib.hid (HR.out.below h1)
        have HM1 := Lib.hid (HM.out w1 (HI.out w1 h1))
        have H1 := Lib.hid (gr_below (g := g) h1)
        clear h1 c0
        go_wp2_with (go_at_fn gf; refine HM1.out.mono ?_; rintro e w2 ⟨rfl, rfl⟩)
        go_ret
        rw [HV.out]
        exact ⟨rfl, gr_set H1.out _ _, HR1.out.set1 u⟩
  · have d : (e == 0) = false := by rw [beq_eq_false_iff_ne]; exact he
    have d' : (e != 0) = true := by simp [bne, d]
    have HV : Hid (readV may s e = (0, s, e)) := by show _ = _; unfold readV; rw [if_pos he]
    have HR := Lib.hid hR
    clear he hs hI hR
    go_enter Try.func45, Try.ntmps45
    go_wp2_with fail
    refine HE.out.mono ?_
    rintro e' w1 ⟨rfl, rfl⟩
    go_wp2
    go_ret
    rw [HV.out]
    exact ⟨rfl, gr_refl _ _, HR.out⟩
theorem num_any (g : Nat) (s : ByteArray) (e : Int) (hs : s.size ≤ 1000000) (w : World) (hR : RAt 68 w g s e) :
    Calls Try.prog 40 #[ptr g] w (Reads 68 g w (.int .i64 (readV (fun _ _ => 0) s e).1) (readV (fun _ _ => 0) s e).2.1 (readV (fun _ _ => 0) s e).2.2) := by
  have HR := Lib.hid (read_any may_num g s e hs w hR (fun _ _ => trivial))
  obtain ⟨r, hr⟩ : ∃ r, readV (fun _ _ => 0) s e = r := ⟨_, rfl⟩
  rw [hr] at HR ⊢
  obtain ⟨r1, r2, r3⟩ := r
  clear hr
  clear hR hs
  go_enter Try.func40, Try.ntmps40
  go_wp2_with fail
  refine HR.out.mono ?_
  rintro e w1 ⟨rfl, h1, h2⟩
  go_wp2
  go_ret
  exact ⟨rfl, h1, h2⟩
theorem rdupto_any (most : Int) (g : Nat) (s : ByteArray) (e : Int) (hs : s.size ≤ 1000000) (w : World) (hR : RAt 68 w g s e) :
    Calls Try.prog 37 #[ptr g, .int .i64 most] w (Reads 68 g w (.int .i64 (readV (fun n _ => uptoM most n) s e).1) (readV (fun n _ => uptoM most n) s e).2.1 (readV (fun n _ => uptoM most n) s e).2.2) := by
  have HR := Lib.hid (read_any (may_upto w.heap.size most) g s e hs (w.alloc (.cells #[.int .i64 most] 2)) (hR.below (by go_grown)) (fun q hq => (hq.cell (by simp)).trans (by rw [World.cell?_alloc_new]; rfl)))
  have HG : Hid (Gr g w (w.alloc (.cells #[.int .i64 most] 2))) := gr_below (by go_grown)
  obtain ⟨r, hr⟩ : ∃ r, readV (fun n _ => uptoM most n) s e = r := ⟨_, rfl⟩
  rw [hr] at HR ⊢
  obtain ⟨r1, r2, r3⟩ := r
  clear hr
  clear hR hs
  go_enter Try.func37, Try.ntmps37
  go_wp2_with fail
  refine HR.out.mono ?_
  rintro e w1 ⟨rfl, h1, h2⟩
  go_wp2
  go_ret
  exact ⟨rfl, gr_trans HG.out h1, h2⟩
end Go.Proofs.Ytbpaongnehgodaa
