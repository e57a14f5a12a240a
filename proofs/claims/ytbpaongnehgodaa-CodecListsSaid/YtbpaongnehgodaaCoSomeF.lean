/- codec.Some, walked. -/
import Derived.Test.YtbpaongnehgodaaCoSome
namespace Go.Proofs.Ytbpaongnehgodaa
open Go.ChangeShapes Go.WideShapes Go.ChangeAt Go.RowKit
theorem add_g (g j : Nat) : (⟨g, 0, none⟩ : Addr).add j = ⟨g, j, none⟩ := by unfold Addr.add; split <;> simp_all
theorem rat_row {w : World} {B T : Nat} {e size n g : Nat} {v : Value} {xs : List Value} {s : ByteArray} {er : Int} (h : w.ownsRow B e size v n xs) (hr : RAt T w g s er) (hne : T ≠ e) : v.ownBlock ≠ some g := row_ne h hr hne
theorem below_gr {w wr w2 : World} {g : Nat} (h : Below w.heap.size w wr) (hg : w.heap.size ≤ g) (k : Gr g wr w2) : Below w.heap.size w w2 := h.trans ⟨k.os, k.tape, k.output, k.size, fun i hi => k.block i (by have := h.size; omega) (fun e => by injection e with e; omega)⟩
theorem row_view {w : World} {B e size n : Nat} {v : Value} {xs : List Value} (h : w.ownsRow B e size v n xs) : ∃ ao cap, v = .slice ao n cap := by
  rcases h.2 with ⟨rfl, rfl⟩ | ⟨g, cap, cur, rfl, _⟩
  · exact ⟨none, 0, rfl⟩
  · exact ⟨_, _, rfl⟩
theorem news_at (w3 : World) (c : Cm) : ∀ j u, (cms [c])[j]? = some u → (((w3.alloc (.cells #[.int .i64 c.k, .int .i64 c.i, .int .i64 c.m, .int .i64 c.o, .int .i64 c.s, .int .i64 c.q, .int .i64 c.p] 23)).alloc (.cells #[.int .i64 c.k, .int .i64 c.i, .int .i64 c.m, .int .i64 c.o, .int .i64 c.s, .int .i64 c.q, .int .i64 c.p] 23)).cell? ((⟨w3.heap.size + 1, 0, none⟩ : Addr).add j)) = some u := fun j u hu => by
  rw [add_g]
  have hb := (boxes2 w3 (.cells #[.int .i64 c.k, .int .i64 c.i, .int .i64 c.m, .int .i64 c.o, .int .i64 c.s, .int .i64 c.q, .int .i64 c.p] 23) (.cells #[.int .i64 c.k, .int .i64 c.i, .int .i64 c.m, .int .i64 c.o, .int .i64 c.s, .int .i64 c.q, .int .i64 c.p] 23)).2.1
  simp only [World.cell?, hb]
  simpa [cms] using hu
theorem news_one (c : Cm) : ∀ u, u ∈ cms [c] → u.oneCell' = true := fun u hu => by
  simp only [cms, List.append_nil, List.mem_cons, List.not_mem_nil, or_false] at hu
  rcases hu with rfl | rfl | rfl | rfl | rfl | rfl | rfl <;> rfl
set_option maxHeartbeats 8000000 in
theorem csome_any (s : ByteArray) (hs : s.size ≤ 1000000) (w : World) : Calls Try.prog 17 #[.string s] w (SomeP s w) := by
  have HN := Lib.hid (new_any s w)
  have HU := Lib.hid (fun W (h : RAt 68 W w.heap.size s 0) => rdupto_any 1024 w.heap.size s 0 hs W h)
  have HUS : Hid ((upT s).2.1.size ≤ 1000000) := Nat.le_trans (readV_size _ s 0) hs
  have hin := upT_in s
  have HSR : Hid (someR s = someN (upT s).1.toNat (upT s).2 []) := rfl
  have eU : readV (fun n _ => uptoM 1024 n) s 0 = upT s := rfl
  rw [eU] at HU
  obtain ⟨U, hU⟩ : ∃ U, upT s = U := ⟨_, rfl⟩
  rw [hU] at HU HUS hin HSR
  obtain ⟨n, x0⟩ := U
  simp only [] at HU HUS hin HSR
  obtain ⟨N, rfl⟩ : ∃ N : Nat, n = (N : Int) := ⟨n.toNat, by omega⟩
  rw [Int.toNat_natCast] at HSR
  have hN : (N : Int) ≤ 1024 := hin.2
  have HRD := Lib.hid (fun (s : ByteArray) (e : Int) (hs : s.size ≤ 1000000) W (h : RAt 68 W w.heap.size s e) => cread_any w.heap.size s e hs W h)
  have HEND := Lib.hid (fun (s : ByteArray) (e : Int) (hs : s.size ≤ 1000000) W (h : RAt 68 W w.heap.size s e) => end_any w.heap.size s e W h hs)
  obtain ⟨i0, hinf, hz0, hz1, hz2⟩ := info_parts infoCm
  clear hU eU hin
  go_enter Try.func17, Try.ntmps17
  go_wp2_with fail
  refine HN.out.mono ?_
  rintro en w1 ⟨rfl, b1, r1⟩
  have B1 := Lib.hid b1
  have R1 := Lib.hid r1
  clear b1 r1
  go_wp2_with fail
  refine (HU.out _ R1.out).mono ?_
  rintro en w2 ⟨rfl, g2, r2⟩
  have B2 := Lib.hid (below_gr B1.out (Nat.le_refl _) g2)
  have R2 := Lib.hid r2
  clear g2 r2
  go_wp2_with fail
  go_loopw [5, 13] (fun lv iv wr => ∃ (k : Nat) (l : List Cm) (x : ByteArray × Int), k ≤ N ∧ iv = .int .i64 k ∧ l.length = k ∧ wr.ownsRow w.heap.size 23 7 lv l.length (cms l) ∧ RAt 68 wr w.heap.size x.1 x.2 ∧ Below w.heap.size w wr ∧ x.1.size ≤ 1000000 ∧ someR s = someN (N - k) x l) (fun _ iv _ => N - (intOf iv).toNat)
  case atStart => exact ⟨0, [], x0, Nat.zero_le _, rfl, rfl, World.ownsRow_nil _ _ _ _, R2.out, B2.out, HUS.out, HSR.out⟩
  case round =>
    obtain ⟨k, l, ⟨sk, ek⟩, hk, rfl, hlk, hown, hrt, hbel, hsz, hsome⟩ := hrel
    subst hlk
    simp only [] at hrt hsz hsome
    have hk2 : (l.length : Int) ≤ N := by omega
    obtain ⟨ao, cap, rfl⟩ := row_view hown
    have HR := Lib.hid hrt
    have HB := Lib.hid hbel
    have HO := Lib.hid hown
    have HSM := Lib.hid hsome
    by_cases hlt : l.length < N
    · have hlt2 : (l.length : Int) < N := by omega
      have HLT := Lib.hid hlt
      have HC := Lib.hid (HRD.out sk ek hsz wr hrt)
      have HSU : Hid (someR s = if (readC sk ek).2.2 ≠ 0 then .inl (readC sk ek).2.2 else someN (N - (l.length + 1)) (readC sk ek).2.1 (l ++ [(readC sk ek).1])) := by
        show _ = _
        rw [hsome, show N - l.length = (N - (l.length + 1)) + 1 by omega]
        rfl
      obtain ⟨⟨c, x1, e1⟩, hR⟩ : ∃ R, readC sk ek = R := ⟨_, rfl⟩
      rw [hR] at HC HSU
      have HBX := Lib.hid (fun w => boxes1 w (.cells #[.int .i64 c.k, .int .i64 c.i, .int .i64 c.m, .int .i64 c.o, .int .i64 c.s, .int .i64 c.q, .int .i64 c.p] 23))
      by_cases he : e1 = 0
      · subst he
        have HSV : Hid (someR s = someN (N - (l.length + 1)) x1 (l ++ [c])) := by show _ = _; rw [HSU.out, if_neg (by simp)]
        have hl63 : l.length + 1 ≤ 2000 := by omega
        clear HSU hsome hrt hbel hown hR hsz hk HSM
        go_wp2_with fail
        refine HC.out.mono ?_
        rintro en w3 ⟨rfl, g3, r3, s3⟩
        have G3 : Hid (wr.grownBy w3 (some w.heap.size)) := g3
        have HB3 := Lib.hid (below_gr HB.out (Nat.le_refl _) g3)
        have HR3 := Lib.hid r3
        have HS3 := Lib.hid s3
        have HO3 : Hid (w3.ownsRow w.heap.size 23 7 (.slice ao l.length cap) l.length (cms l)) := World.ownsRow.kept HO.out g3 (Or.inr (rat_row HO.out HR.out (by decide)))
        clear g3 r3 s3
        have hcx := (HBX.out w3).1
        obtain ⟨k0, k1, k2, k3, k4, k5, k6⟩ := CB.cells (c := c) hcx
        have hbase : w.heap.size ≤ w3.heap.size := HB3.out.size
        clear hcx
        go_wp2_with (at_builtin; refine wpList_append_lies _ rfl _ _ 34 rfl w.heap.size 23 i0 (.agg #[.int .i64 0, .int .i64 0, .int .i64 0, .int .i64 0, .int .i64 0, .int .i64 0, .int .i64 0]) 7 56 Try.underlying34 hinf hz0 hz1 hz2 rfl (by decide) _ l.length (cms l) rfl ((HO3.out.alloc _).alloc _) ⟨w3.heap.size + 1, 0, none⟩ 1 1 (cms [c]) rfl rfl ?a1 ?a2 (by decide) ?a3 ?a4 ?a5 _ rfl ?_)
        case a1 => exact news_at w3 c
        case a2 => exact news_one c
        case a3 => unfold maxLen; omega
        case a4 => omega
        case a5 => simp; omega
        intro g5 cp5 w5 hown5 hgrow5 _ _
        have HX : Hid (w5.ownsRow w.heap.size 23 7 (.slice (some ⟨g5, 0, none⟩) (l.length + 1) cp5) (l ++ [c]).length (cms (l ++ [c]))) := by
          rw [cms_append, List.length_append]; exact hown5
        have HR5 : Hid (RAt 68 w5 w.heap.size x1.1 x1.2) := (hgrow5.block _ (by have := HR3.out.lt; simp; omega) (fun e => rat_row HO3.out HR3.out (by decide) e.symm)).trans (alloc_keep (alloc_keep HR3.out))
        have HB5 : Hid (Below w.heap.size w w5) := ((HB3.out.alloc hbase _).alloc (by simp; omega) _).grown hgrow5 (by simp; omega) (fun k' hk' => (World.ownsRow.lt HO3.out k' hk').1)
        clear hown5 hgrow5 k0 k1 k2 k3 k4 k5 k6 hbase
        go_wp2_with fail
        go_roundw
        case rel => exact ⟨l.length + 1, l ++ [c], x1, by have := HLT.out; omega, by go_num, by simp, HX.out, HR5.out, HB5.out, HS3.out, HSV.out⟩
        case measure => have := HLT.out; simp [intOf]; omega
      · have HSV : Hid (someA s = .inl e1) := by
          show _ = _
          unfold someA
          rw [HSU.out, if_pos he]
        have d1 : (e1 == 0) = false := by simp [he]
        have d2 : (e1 != 0) = true := by simp [he]
        clear HSU hsome hrt hbel hown hR hsz hk HSM he
        go_wp2_with fail
        refine HC.out.mono ?_
        rintro en w3 ⟨rfl, g3, r3, s3⟩
        have HB3 := Lib.hid (below_gr HB.out (Nat.le_refl _) g3)
        have hbase : w.heap.size ≤ w3.heap.size := HB3.out.size
        clear g3 r3 s3
        go_wp2_with fail
        go_ret2
        exact ⟨HB3.out.alloc hbase _, Or.inl ⟨e1, HSV.out, rfl⟩⟩
    · have hz : N - l.length = 0 := by omega
      have hlt2 : ¬ ((l.length : Nat) : Int) < N := by omega
      have HE := Lib.hid (HEND.out sk ek hsz wr hrt)
      have HSA : Hid (someA s = if endV sk ek ≠ 0 then .inl (endV sk ek) else .inr l) := by
        show _ = _
        unfold someA
        rw [hsome, hz]
        rfl
      have HROW := Lib.hid (cms_row hown)
      obtain ⟨E, hE⟩ : ∃ E, endV sk ek = E := ⟨_, rfl⟩
      rw [hE] at HE HSA
      by_cases he : E = 0
      · subst he
        have HSV : Hid (someA s = .inr l) := by show _ = _; rw [HSA.out, if_neg (by simp)]
        clear hE HSA hsome hrt hbel hown hsz hk hz HSM hlt
        go_wp2_with fail
        refine HE.out.mono ?_
        rintro en w3 ⟨rfl, rfl⟩
        go_wp2_with fail
        go_ret2
        exact ⟨HB.out, Or.inr ⟨l, ao, cap, HSV.out, rfl, HROW.out⟩⟩
      · have HSV : Hid (someA s = .inl E) := by show _ = _; rw [HSA.out, if_pos he]
        have d1 : (E == 0) = false := by simp [he]
        have d2 : (E != 0) = true := by simp [he]
        clear hE HSA hsome hrt hbel hown hsz hk hz HSM hlt he
        go_wp2_with fail
        refine HE.out.mono ?_
        rintro en w3 ⟨rfl, rfl⟩
        go_wp2_with fail
        go_ret2
        exact ⟨HB.out, Or.inl ⟨E, HSV.out, rfl⟩⟩
end Go.Proofs.Ytbpaongnehgodaa
