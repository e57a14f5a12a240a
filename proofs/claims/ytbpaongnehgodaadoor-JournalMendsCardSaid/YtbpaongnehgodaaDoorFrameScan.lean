/- Package frame: Scan; the document's. -/
import Derived.Test.YtbpaongnehgodaaDoorFAppend
namespace Go.Proofs.YtbpaongnehgodaaDoor
open Go.ChangeShapes Go.WideShapes Go.ChangeAt Go.RowKit
/-- A text, as a value. -/
def tv (l : List UInt8) : Value := .string ⟨l.toArray⟩
theorem infoS' : (Tryd.prog.info? 9).map (fun i => (i.zero, i.size, i.bytes)) = some (some (.string ⟨#[]⟩), 1, 16) := by kernel_rfl
/-- n texts lie at the address; of none nothing is said. -/
def StrsAt (w : World) (ao : Option Addr) (n : Nat) (f : Nat → Value) : Prop :=
  0 < n → ∃ b off, ao = some ⟨b, off, none⟩ ∧ b < w.heap.size ∧ ∀ i, i < n → w.cell? ⟨b, off + i, none⟩ = some (f i)
theorem StrsAt.below {w w' : World} {ao : Option Addr} {n : Nat} {f : Nat → Value} (h : StrsAt w ao n f) (hb : Below w.heap.size w w') : StrsAt w' ao n f := fun hn => by
  obtain ⟨b, off, e, hlt, hc⟩ := h hn
  exact ⟨b, off, e, Nat.lt_of_lt_of_le hlt hb.size, fun i hi => (hb.cell (by exact hlt)).trans (hc i hi)⟩
/-- The texts of a list. -/
def texts (rs : List (List UInt8)) (i : Nat) : Value := tv (rs.getD i [])
/-- What Scan tells. -/
def Scans (w : World) (A : List (List UInt8) × Nat × Int) (e : Ending) (w' : World) : Prop :=
  Below w.heap.size w w' ∧ ∃ ao cap, e = .returned (.tuple #[.slice ao A.1.length cap, .int .i64 (A.2.1 : Nat), .int .i64 A.2.2]) ∧ StrsAt w' ao A.1.length (texts A.1) ∧ ∀ a, ao = some a → w.heap.size ≤ a.block
theorem strs_of_owned {w : World} {B T : Nat} {v : Value} {rs : List (List UInt8)} (h : w.ownsRow B T 1 v rs.length (rs.map tv)) : ∃ ao cap, v = .slice ao rs.length cap ∧ StrsAt w ao rs.length (texts rs) ∧ ∀ a, ao = some a → B ≤ a.block := by
  rcases h.2 with ⟨rfl, h0⟩ | ⟨g, cap, cur, rfl, hB, hh, hr⟩
  · exact ⟨none, 0, by rw [h0], fun hn => by omega, fun a h => by cases h⟩
  · refine ⟨some ⟨g, 0, none⟩, cap, rfl, fun _ => ⟨g, 0, rfl, lt_of_block hh, fun i hi => ?_⟩, fun a h => by injection h with h; rw [← h]; exact hB⟩
    rw [Nat.zero_add, World.ownsRow.cellAt h i (by omega)]
    simp [texts, hi]
/-- Where a scan stands. -/
structure ScanSt (L : List UInt8) (A : List (List UInt8) × Nat × Int) (k : Nat) (rs : List (List UInt8)) : Prop where
  le : k ≤ L.length
  many : rs.length ≤ k
  eq : ∃ f, L.length - k ≤ f ∧ A = (rs ++ (scanR f (L.drop k)).1, k + (scanR f (L.drop k)).2.1, (scanR f (L.drop k)).2.2)
theorem ScanSt.start (L : List UInt8) (f : Nat) (hf : L.length ≤ f) : ScanSt L (scanR f L) 0 [] :=
  ⟨Nat.zero_le _, Nat.le_refl _, f, by omega, by simp⟩
theorem ScanSt.done {L : List UInt8} {A : List (List UInt8) × Nat × Int} {rs : List (List UInt8)} (h : ScanSt L A L.length rs) : A = (rs, L.length, 0) := by
  obtain ⟨f, _, e⟩ := h.eq
  rw [e, List.drop_length]
  cases f <;> simp [scanR]
theorem ScanSt.stop {L : List UInt8} {A : List (List UInt8) × Nat × Int} {k : Nat} {rs : List (List UInt8)} {e : Int} (h : ScanSt L A k rs) (hk : k < L.length) (hn : nextR (L.drop k) = .err e) : A = (rs, k, e) := by
  obtain ⟨f, hf, ea⟩ := h.eq
  obtain ⟨f', rfl⟩ : ∃ f', f = f' + 1 := ⟨f - 1, by omega⟩
  have hne : L.drop k ≠ [] := by
    intro h0
    have := congrArg List.length h0
    simp only [List.length_drop, List.length_nil] at this
    omega
  rw [ea]
  simp only [scanR]
  rw [if_neg hne, hn]
  simp
theorem ScanSt.next {L : List UInt8} {A : List (List UInt8) × Nat × Int} {k n : Nat} {rs : List (List UInt8)} (h : ScanSt L A k rs) (hk : k < L.length) (hn : nextR (L.drop k) = .ok n) : ScanSt L A (k + (8 + n)) (rs ++ [((L.drop k).drop 8).take n]) ∧ n ≤ 1024 ∧ (((L.drop k).drop 8).take n).length = n := by
  obtain ⟨f, hf, ea⟩ := h.eq
  obtain ⟨f', rfl⟩ : ∃ f', f = f' + 1 := ⟨f - 1, by omega⟩
  have hne : L.drop k ≠ [] := by
    intro h0
    have := congrArg List.length h0
    simp only [List.length_drop, List.length_nil] at this
    omega
  obtain ⟨_, h2, h3, _⟩ := nextR_ok hn
  rw [List.length_drop] at h3
  refine ⟨⟨by omega, by have := h.many; simp only [List.length_append, List.length_singleton]; omega, f', by omega, ?_⟩, h2, by rw [List.length_take, List.length_drop, List.length_drop]; omega⟩
  rw [ea]
  simp only [scanR]
  rw [if_neg hne, hn]
  simp only [List.drop_drop]
  refine Prod.ext ?_ (Prod.ext ?_ rfl)
  · simp
  · show k + (8 + n + _) = k + (8 + n) + _
    omega
set_option maxHeartbeats 2000000 in
theorem scan_any (s : ByteArray) (hs : s.size ≤ 900000) (w : World) (ht : Tab w) :
    Calls Tryd.prog 26 #[.string s] w (Scans w (scanR s.size s.data.toList)) := by
  have hl := len_eq s
  have hs2 : (s.size : Int) ≤ 900000 := by omega
  obtain ⟨A, hA⟩ : ∃ A, scanR s.size s.data.toList = A := ⟨_, rfl⟩
  have HST : Hid (ScanSt s.data.toList A 0 []) := by rw [← hA]; exact ScanSt.start _ _ (by omega)
  have HNX := Lib.hid (fun k W HW => next_any (s.extract k s.size) (Nat.le_trans (ext_le _ _ _) (by omega)) W HW)
  rw [hA]
  obtain ⟨i0, hinf, hz0, hz1, hz2⟩ := info_parts infoS'
  have HTT := Lib.hid ht
  have HL := Lib.hid hl
  clear hA hs hl
  go_enter Tryd.func26, Tryd.ntmps26
  go_wp2_with fail
  go_loopw [2, 3] (fun vv uv wr => ∃ (k : Nat) (rs : List (List UInt8)), uv = .int .i64 k ∧ ScanSt s.data.toList A k rs ∧ wr.ownsRow w.heap.size 9 1 vv rs.length (rs.map tv) ∧ Below w.heap.size w wr) (fun _ uv _ => s.size - (intOf uv).toNat)
  case atStart => exact ⟨0, [], rfl, HST.out, World.ownsRow_nil _ _ _ _, Below.refl _ _⟩
  case round =>
    obtain ⟨k, rs, rfl, hst, hown, hbel⟩ := hrel
    have hk : k ≤ s.size := by have := hst.le; have := HL.out; omega
    have hk2 : (k : Int) ≤ s.size := by omega
    have hrs := hst.many
    by_cases hlt : k < s.size
    · have hlt2 : (k : Int) < s.size := by omega
      have hkL : k < s.data.toList.length := by have := HL.out; omega
      have HN0 := Lib.hid (HNX.out k wr (HTT.out.next hbel))
      rw [ext_end] at HN0
      have HB := Lib.hid hbel
      cases hnx : nextR (s.data.toList.drop k) with
      | err e =>
        have HA := Lib.hid (hst.stop hkL hnx)
        rw [hnx] at HN0
        obtain ⟨ao, cap, rfl, hstr, hlo⟩ := strs_of_owned hown
        have HSTR := Lib.hid hstr
        have HLO := Lib.hid hlo
        clear hlo
        have he0 : (e == 0) = false ∧ (e != 0) = true := by
          unfold nextR at hnx
          split at hnx
          · cases hnx; decide
          · split at hnx
            · cases hnx; decide
            · split at hnx
              · cases hnx; decide
              · cases hnx
        obtain ⟨he1, he2⟩ := he0
        unfold nextV at HN0
        clear hst hown hbel hnx hkL hlt hstr hrs
        go_wp2_with fail
        refine HN0.out.mono ?_
        rintro e' w1 ⟨rfl, h1⟩
        have HB1 : Hid (Below w.heap.size w w1) := HB.out.trans (h1.mono HB.out.size)
        have HS1 := Lib.hid (HSTR.out.below h1)
        clear h1
        go_wp2
        go_ret3
        rw [HA.out]
        exact ⟨HB1.out, ao, cap, rfl, HS1.out, HLO.out⟩
      | ok n =>
        obtain ⟨hst2, hn, hlen⟩ := hst.next hkL hnx
        have HST2 := Lib.hid hst2
        rw [hnx] at HN0
        have HN1 : Hid (Calls Tryd.prog 43 #[.string (s.extract k s.size)] wr (Ret (.tuple #[.string ((s.extract k s.size).extract 8 (8 + n)), .string ((s.extract k s.size).extract (8 + n) (s.extract k s.size).size), .int .i64 0]) wr)) := HN0.out
        have er : ((s.extract k s.size).extract 8 (8 + n)).data.toList = ((s.data.toList.drop k).drop 8).take n := by
          rw [ext_toList, ext_end, show 8 + n - 8 = n by omega]
        obtain ⟨R, hR⟩ : ∃ R, (s.extract k s.size).extract 8 (8 + n) = R := ⟨_, rfl⟩
        rw [hR] at HN1 er
        have HER : Hid (Value.string R = tv (((s.data.toList.drop k).drop 8).take n)) := by show _ = _; rw [← er]; rfl
        have hRs : R.size = n := by rw [← len_eq R, er, hlen]
        have n1 : (n : Int) ≤ 1024 := by omega
        have hkn : k + (8 + n) ≤ s.size := by have := hst2.le; have := HL.out; omega
        have hkn2 : (k : Int) + (8 + (n : Int)) ≤ s.size := by omega
        have HSZ := Lib.hid (fun W => size_any R (by omega) W)
        rw [hRs, if_neg (by omega)] at HSZ
        have ek : ((8 + n : Nat) : Int) = 8 + (n : Int) := by omega
        rw [ek] at HSZ
        have HO := Lib.hid hown
        have HK := Lib.hid hkn
        clear hst hst2 hnx hkL hlt HN0 er hR hlen hn hown hbel
        generalize (s.extract k s.size).extract (8 + n) (s.extract k s.size).size = Z at *
        go_wp2_with fail
        refine HN1.out.mono ?_
        rintro e' w1 ⟨rfl, h1⟩
        have HB1 : Hid (Below w.heap.size w w1) := HB.out.trans (h1.mono HB.out.size)
        have hown1 := World.ownsRow.kept HO.out (gr_below (g := w1.heap.size) h1) (Or.inr (fun e => by have := (World.ownsRow.lt HO.out _ e).2; have := h1.size; omega))
        have hb1 := HB1.out.size
        have hbase : w.heap.size ≤ w1.heap.size + 1 := by omega
        clear h1 HN1 HO HB
        go_wp2_with (at_builtin; refine wpList_append_near _ rfl _ _ 22 rfl w.heap.size 9 i0 (.string ⟨#[]⟩) 16 Tryd.underlying22 hinf hz0 hz1 hz2 rfl _ rs.length _ rfl (hown1.alloc _) ⟨w1.heap.size, 0, none⟩ 1 (.string R) rfl ?a1 rfl ?a3 ?a4 ?a5 ?_)
        try (case a1 => rw [World.cell?_alloc_new]; rfl)
        case a3 => unfold maxLen; omega
        case a4 => omega
        case a5 => simp; omega
        intro v3 w3 hown3 hgrow3 hnear3
        have HO3 : Hid (w3.ownsRow w.heap.size 9 1 v3 (rs ++ [((s.data.toList.drop k).drop 8).take n]).length ((rs ++ [((s.data.toList.drop k).drop 8).take n]).map tv)) := by
          show World.ownsRow _ _ _ _ _ _ _
          rw [HER.out] at hown3
          simpa using hown3
        have HB3 : Hid (Below w.heap.size w w3) := (HB1.out.alloc HB1.out.size _).grown hgrow3 (by simp; omega) (fun k' hk' => (hown1.lt k' hk').1)
        clear hown3 hgrow3 hnear3 hown1 HB1
        go_wp2_with fail
        refine (HSZ.out _).mono ?_
        rintro e w4 ⟨rfl, rfl⟩
        go_wp2_with fail
        go_roundw
        case rel => exact ⟨k + (8 + n), _, by go_num, HST2.out, HO3.out, HB3.out⟩
        case measure => have := HK.out; simp [intOf]; omega
    · obtain rfl : k = s.size := by omega
      have HA : Hid (A = (rs, s.size, 0)) := by
        show A = _
        have h0 : ScanSt s.data.toList A s.data.toList.length rs := by rw [HL.out]; exact hst
        rw [h0.done, HL.out]
      obtain ⟨ao, cap, rfl, hstr, hlo⟩ := strs_of_owned hown
      have HSTR := Lib.hid hstr
      have HLO := Lib.hid hlo
      clear hlo
      have HB := Lib.hid hbel
      clear hst hown hbel hlt hstr hrs
      go_wp2_with fail
      go_ret3
      rw [HA.out]
      exact ⟨HB.out, ao, cap, rfl, HSTR.out, HLO.out⟩
end Go.Proofs.YtbpaongnehgodaaDoor
