/- NumGets, walked. -/
import Derived.Test.YtmepaeppkeaifaaNumPut
import Derived.Deep.RegionHeld3
namespace Go.Proofs.Ytmepaeppkeaifaa
open Go.ChangeShapes Go.WideShapes Go.ChangeAt Go.RowKit
theorem encA : encN (codeN (-1)) = [1] := by
  rw [show codeN (-1) = 1 from by decide, encN_one (by decide)]; rfl
theorem encB : encN (codeN 64) = [128, 1] := by
  rw [show codeN 64 = 128 from by decide, encN_more (by decide), encN_one (by decide)]; rfl
theorem encC : txtL [97] = [2, 97] := by
  unfold txtL
  rw [show codeN (([97] : List UInt8).length : Int) = 2 from by decide, encN_one (by decide)]; rfl
theorem awake_any (w : World) : Calls Try.prog 22 #[] w (Ret (.bool true) w) := by
  have H1 := Lib.hid (fun W => put_any (-1) (by decide) W)
  have H2 := Lib.hid (fun W => put_any 64 (by decide) W)
  have H3 := Lib.hid (fun W => text_any [97] (by decide) W)
  rw [encA] at H1
  rw [encB] at H2
  rw [encC] at H3
  unfold txt at *
  go_enter Try.func22, Try.ntmps22
  go_wp2_with fail
  refine (H1.out _).mono ?_
  rintro e w1 ⟨rfl, h1⟩
  go_wp2_with fail
  refine (H2.out _).mono ?_
  rintro e w2 ⟨rfl, h2⟩
  go_wp2_with fail
  refine (H3.out _).mono ?_
  rintro e w3 ⟨rfl, h3⟩
  have HB : Hid (Below w.heap.size w w3) := (h1.trans (h2.mono h1.size)).trans (h3.mono (Nat.le_trans h1.size h2.size))
  clear h1 h2 h3
  go_wp2
  go_ret
  exact ⟨rfl, HB.out⟩
theorem gets_long (s : ByteArray) (hs : s.size ≤ 9223372036854775807) (hl : 100 < s.size) (w : World) :
    Calls Try.prog 6 #[.string s] w (Ret (.bool true) w) := by
  have d1 : decide (100 < (s.size : Int)) = true := by simp; omega
  have d2 := decide_eq_true hl
  have HA := Lib.hid (awake_any w)
  clear hl hs
  go_enter Try.func6, Try.ntmps6
  go_wp2_with fail
  refine HA.out.mono ?_
  rintro e w1 ⟨rfl, h1⟩
  go_wp2
  go_ret
  exact ⟨rfl, h1⟩
set_option maxHeartbeats 2000000 in
theorem gets_any (s : ByteArray) (hs : s.size ≤ 100) (w : World) :
    Calls Try.prog 6 #[.string s] w (Ret (.bool true) w) := by
  have hs2 : (s.size : Int) ≤ 100 := by omega
  have d1 : decide (100 < (s.size : Int)) = false := by simp; omega
  have d2 : decide (100 < s.size) = false := by simp; omega
  have HA := Lib.hid awake_any
  have HG := Lib.hid (get_any s (by omega) w)
  have HR := Lib.hid (refget_any s (by omega))
  have HE := Lib.hid (fun v m (e : getR 0 s.data.toList = .ok v m) => enc_getR s.data.toList 0 v m (by decide) e)
  obtain ⟨G, hG⟩ : ∃ G, getR 0 s.data.toList = G := ⟨_, rfl⟩
  rw [hG] at HG HR
  cases G with
  | short =>
    clear hG HE hs
    unfold getV at HG
    unfold refV at HR
    go_enter Try.func6, Try.ntmps6
    go_wp2_with fail
    refine HG.out.mono ?_
    rintro e w1 ⟨rfl, h1⟩
    go_wp2_with fail
    refine (HR.out _).mono ?_
    rintro e w2 ⟨rfl, rfl⟩
    go_wp2_with fail
    refine (HA.out _).mono ?_
    rintro e w3 ⟨rfl, h3⟩
    have HB : Hid (Below w.heap.size w w3) := h1.trans (h3.mono h1.size)
    clear h1 h3
    go_wp2
    go_ret
    exact ⟨rfl, HB.out⟩
  | form =>
    clear hG HE hs
    unfold getV at HG
    unfold refV at HR
    go_enter Try.func6, Try.ntmps6
    go_wp2_with fail
    refine HG.out.mono ?_
    rintro e w1 ⟨rfl, h1⟩
    go_wp2_with fail
    refine (HR.out _).mono ?_
    rintro e w2 ⟨rfl, rfl⟩
    go_wp2_with fail
    refine (HA.out _).mono ?_
    rintro e w3 ⟨rfl, h3⟩
    have HB : Hid (Below w.heap.size w w3) := h1.trans (h3.mono h1.size)
    clear h1 h3
    go_wp2
    go_ret
    exact ⟨rfl, HB.out⟩
  | ok v m =>
    obtain ⟨e1, e2, _, e4, e5⟩ := HE.out v m hG
    have hm : m ≤ s.size := by simpa using e4
    have hv : v < 18446744073709551616 := by omega
    have HP := Lib.hid (put_any (numN v) (numN_in hv))
    rw [codeN_num, ← e1] at HP
    have hm2 : (m : Int) ≤ s.size := by omega
    have hx : s.extract 0 m = ⟨(s.data.toList.take m).toArray⟩ := by
      apply ByteArray.ext
      apply Array.ext'
      simp [ByteArray.data_extract]
    have HX := Lib.hid hx
    clear hG HE e1 e2 e4 e5 hs hv hx
    unfold getV at HG
    unfold refV at HR
    unfold txt at HP
    rw [← HX.out] at HP
    go_enter Try.func6, Try.ntmps6
    go_wp2_with fail
    refine HG.out.mono ?_
    rintro e w1 ⟨rfl, h1⟩
    go_wp2_with fail
    refine (HR.out _).mono ?_
    rintro e w2 ⟨rfl, rfl⟩
    have H1 := Lib.hid h1
    clear h1
    go_wp2_with fail
    have q1 := H1.out.size
    go_region_held3 (fun _ => True) (trivial) (first | (go_at_call 22; refine (HA.out _).mono ?_; rintro e w3 ⟨rfl, h3⟩; (have q3 := h3.size; (try simp at q3)); (have H3 : Hid (Below w.heap.size w w3) := (H1.out.trans (Below.trans (by go_grown) (h3.mono (by first | omega | (simp; done) | (simp; omega))))); clear h3)) | (go_at_call 29; refine (HP.out _).mono ?_; rintro e w4 ⟨rfl, h4⟩; (have q4 := h4.size; (try simp at q4)); (have H4 : Hid (Below w.heap.size w w4) := (H3.out.trans (Below.trans (by go_grown) (h4.mono (by first | omega | (simp; done) | (simp; omega))))); clear h4)))
    go_wp2
    go_ret
    exact ⟨rfl, by have hb := H4.out; go_grown⟩
end Go.Proofs.Ytmepaeppkeaifaa
