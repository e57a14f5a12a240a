/- The document's layer 8: Scan. -/
import Derived.Test.YtmepaeppkeaifaaDoorFrameScan
namespace Go.Proofs.YtmepaeppkeaifaaDoor
open Go.ChangeShapes Go.WideShapes Go.ChangeAt Go.RowKit
set_option maxHeartbeats 2000000 in
theorem refscan_any (s : ByteArray) (hs : s.size ≤ 900000) (w : World) :
    Calls Tryd.prog 13 #[.string s] w (Scans w (scanR s.size s.data.toList)) := by
  have hl := len_eq s
  have hs2 : (s.size : Int) ≤ 900000 := by omega
  obtain ⟨A, hA⟩ : ∃ A, scanR s.size s.data.toList = A := ⟨_, rfl⟩
  have HST : Hid (ScanSt s.data.toList A 0 []) := by rw [← hA]; exact ScanSt.start _ _ (by omega)
  have HNX := Lib.hid (fun k W => refnext_any (s.extract k s.size) (Nat.le_trans (ext_le _ _ _) (by omega)) W)
  rw [hA]
  obtain ⟨i0, hinf, hz0, hz1, hz2⟩ := info_parts infoS'
  have HL := Lib.hid hl
  clear hA hs hl
  go_enter Tryd.func13, Tryd.ntmps13
  go_wp2_with fail
  go_loopw [5, 6] (fun vv uv wr => ∃ (k : Nat) (rs : List (List UInt8)), uv = .int .i64 k ∧ ScanSt s.data.toList A k rs ∧ wr.ownsRow w.heap.size 9 1 vv rs.length (rs.map tv) ∧ Below w.heap.size w wr) (fun _ uv _ => s.size - (intOf uv).toNat)
  case atStart => exact ⟨0, [], rfl, HST.out, World.ownsRow_nil _ _ _ _, Below.refl _ _⟩
  case round =>
    obtain ⟨k, rs, rfl, hst, hown, hbel⟩ := hrel
    have hk : k ≤ s.size := by have := hst.le; have := HL.out; omega
    have hk2 : (k : Int) ≤ s.size := by omega
    have hrs := hst.many
    by_cases hlt : k < s.size
    · have hlt2 : (k : Int) < s.size := by omega
      have hkL : k < s.data.toList.length := by have := HL.out; omega
      have HN0 := Lib.hid (HNX.out k wr)
      rw [ext_end] at HN0
      have HB := Lib.hid hbel
      cases hnx : nextR (s.data.toList.drop k) with
      | err e =>
        have HA := Lib.hid (hst.stop hkL hnx)
        rw [hnx] at HN0
        obtain ⟨ao, cap, rfl, hstr⟩ := strs_of_owned hown
        have HSTR := Lib.hid hstr
        have he0 : (e == 0) = false ∧ (e != 0) = true := by
          unfold nextR at hnx
          split at hnx
          · cases hnx; decide
          · split at hnx
            · cases hnx; decide
            · split at hnx
              · cases hnx; decide
              · cases hnx
        obtain ⟨he1, he2⟩ := he0
        unfold nextV at HN0
        clear hst hown hbel hnx hkL hlt hstr hrs
        go_wp2_with fail
        refine HN0.out.mono ?_
        rintro e' w1 ⟨rfl, h1⟩
        have HB1 : Hid (Below w.heap.size w w1) := HB.out.trans (h1.mono HB.out.size)
        have HS1 := Lib.hid (HSTR.out.below h1)
        clear h1
        go_wp2
        go_ret3
        rw [HA.out]
        exact ⟨HB1.out, ao, cap, rfl, HS1.out⟩
      | ok n =>
        obtain ⟨hst2, hn, hlen⟩ := hst.next hkL hnx
        have HST2 := Lib.hid hst2
        rw [hnx] at HN0
        have HN1 : Hid (Calls Tryd.prog 11 #[.string (s.extract k s.size)] wr (Ret (.tuple #[.string ((s.extract k s.size).extract 8 (8 + n)), .string ((s.extract k s.size).extract (8 + n) (s.extract k s.size).size), .int .i64 0]) wr)) := HN0.out
        have er : ((s.extract k s.size).extract 8 (8 + n)).data.toList = ((s.data.toList.drop k).drop 8).take n := by
          rw [ext_toList, ext_end, show 8 + n - 8 = n by omega]
        obtain ⟨R, hR⟩ : ∃ R, (s.extract k s.size).extract 8 (8 + n) = R := ⟨_, rfl⟩
        rw [hR] at HN1 er
        have HER : Hid (Value.string R = tv (((s.data.toList.drop k).drop 8).take n)) := by show _ = _; rw [← er]; rfl
        have hRs : R.size = n := by rw [← len_eq R, er, hlen]
        have n1 : (n : Int) ≤ 1024 := by omega
        have hkn : k + (8 + n) ≤ s.size := by have := hst2.le; have := HL.out; omega
        have hkn2 : (k : Int) + (8 + (n : Int)) ≤ s.size := by omega
        have hR2 : (R.size : Int) = n := by omega
        have HO := Lib.hid hown
        have HK := Lib.hid hkn
        clear hst hst2 hnx hkL hlt HN0 er hR hlen hn hown hbel
        generalize (s.extract k s.size).extract (8 + n) (s.extract k s.size).size = Z at *
        go_wp2_with fail
        refine HN1.out.mono ?_
        rintro e' w1 ⟨rfl, h1⟩
        have HB1 : Hid (Below w.heap.size w w1) := HB.out.trans (h1.mono HB.out.size)
        have hown1 := World.ownsRow.kept HO.out (gr_below (g := w1.heap.size) h1) (Or.inr (fun e => by have := (World.ownsRow.lt HO.out _ e).2; have := h1.size; omega))
        have hb1 := HB1.out.size
        have hbase : w.heap.size ≤ w1.heap.size + 1 := by omega
        clear h1 HN1 HO HB
        go_wp2_with (at_builtin; refine wpList_append_near _ rfl _ _ 31 rfl w.heap.size 9 i0 (.string ⟨#[]⟩) 16 Tryd.underlying31 hinf hz0 hz1 hz2 rfl _ rs.length _ rfl (hown1.alloc _) ⟨w1.heap.size, 0, none⟩ 1 (.string R) rfl ?a1 rfl ?a3 ?a4 ?a5 ?_)
        try (case a1 => rw [World.cell?_alloc_new]; rfl)
        case a3 => unfold maxLen; omega
        case a4 => omega
        case a5 => simp; omega
        intro v3 w3 hown3 hgrow3 hnear3
        have HO3 : Hid (w3.ownsRow w.heap.size 9 1 v3 (rs ++ [((s.data.toList.drop k).drop 8).take n]).length ((rs ++ [((s.data.toList.drop k).drop 8).take n]).map tv)) := by
          show World.ownsRow _ _ _ _ _ _ _
          rw [HER.out] at hown3
          simpa using hown3
        have HB3 : Hid (Below w.heap.size w w3) := (HB1.out.alloc HB1.out.size _).grown hgrow3 (by simp; omega) (fun k' hk' => (hown1.lt k' hk').1)
        clear hown3 hgrow3 hnear3 hown1 HB1
        go_wp2_with fail
        go_roundw
        case rel => exact ⟨k + (8 + n), _, by go_num, HST2.out, HO3.out, HB3.out⟩
        case measure => have := HK.out; simp [intOf]; omega
    · obtain rfl : k = s.size := by omega
      have HA : Hid (A = (rs, s.size, 0)) := by
        show A = _
        have h0 : ScanSt s.data.toList A s.data.toList.length rs := by rw [HL.out]; exact hst
        rw [h0.done, HL.out]
      obtain ⟨ao, cap, rfl, hstr⟩ := strs_of_owned hown
      have HSTR := Lib.hid hstr
      have HB := Lib.hid hbel
      clear hst hown hbel hlt hstr hrs
      go_wp2_with fail
      go_ret3
      rw [HA.out]
      exact ⟨HB.out, ao, cap, rfl, HSTR.out⟩
end Go.Proofs.YtmepaeppkeaifaaDoor
