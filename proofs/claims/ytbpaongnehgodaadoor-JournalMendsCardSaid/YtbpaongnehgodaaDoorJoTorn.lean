/- JournalTorn, walked. -/
import Derived.Test.YtbpaongnehgodaaDoorJoTornM
namespace Go.Proofs.YtbpaongnehgodaaDoor
open Go.ChangeShapes Go.WideShapes Go.ChangeAt Go.RowKit
theorem torn_out (ao : Option Addr) (n cap : Nat) (r : ByteArray) (f keep : Int) (hn : n ≤ 9223372036854775807) (hr : r.size ≤ 9223372036854775807) (h : 12 < n ∨ 100 < r.size ∨ f < -1) (w : World) (ht : Tab w) :
    Calls Tryd.prog 3 #[.slice ao n cap, .string r, .agg #[.int .i64 f, .int .i64 keep]] w (Ret (.bool true) w) := by
  have HTB : Hid (∀ w', Below w.heap.size w w' → Tab w') := fun w' hb => Tab.below ht hb ht.lt
  have HA := Lib.hid (fun W (h : Tab W) => awake12_any W h)
  have B1 := Lib.hid ((Below.refl w.heap.size w).alloc (Nat.le_refl _) (.cells #[.int .i64 f, .int .i64 keep] 23))
  by_cases h1 : 12 < n
  · have d1 : decide (12 < (n : Int)) = true := decide_eq_true (by omega)
    have d2 : decide (12 < n) = true := decide_eq_true h1
    clear h h1 hn hr ht
    go_enter Tryd.func3, Tryd.ntmps3
    go_wp2_with fail
    go_region
    all_goals
      go_wp2_with fail
      refine (HA.out _ (HTB.out _ B1.out.drew)).mono ?_
      rintro en w1 ⟨rfl, b1⟩
      have HB : Hid (Below w.heap.size w w1) := B1.out.drew.trans (b1.mono B1.out.drew.size)
      clear b1
      go_wp2_with fail
      go_ret
      exact ⟨rfl, HB.out⟩
  · have d1 : decide (12 < (n : Int)) = false := decide_eq_false (by omega)
    have d2 : decide (12 < n) = false := decide_eq_false h1
    by_cases h2 : 100 < r.size
    · have d3 : decide (100 < (r.size : Int)) = true := decide_eq_true (by omega)
      have d4 : decide (100 < r.size) = true := decide_eq_true h2
      clear h h1 h2 hn ht
      go_enter Tryd.func3, Tryd.ntmps3
      go_wp2_with fail
      go_region
      all_goals
        go_wp2_with fail
        refine (HA.out _ (HTB.out _ B1.out.drew)).mono ?_
        rintro en w1 ⟨rfl, b1⟩
        have HB : Hid (Below w.heap.size w w1) := B1.out.drew.trans (b1.mono B1.out.drew.size)
        clear b1
        go_wp2_with fail
        go_ret
        exact ⟨rfl, HB.out⟩
    · have d3 : decide (100 < (r.size : Int)) = false := decide_eq_false (by omega)
      have d4 : decide (100 < r.size) = false := decide_eq_false h2
      have d5 : decide (f < -1) = true := decide_eq_true (by omega)
      clear h h1 h2 hn ht
      go_enter Tryd.func3, Tryd.ntmps3
      go_wp2_with fail
      go_region
      all_goals
        go_wp2_with fail
        refine (HA.out _ (HTB.out _ B1.out.drew)).mono ?_
        rintro en w1 ⟨rfl, b1⟩
        have HB : Hid (Below w.heap.size w w1) := B1.out.drew.trans (b1.mono B1.out.drew.size)
        clear b1
        go_wp2_with fail
        go_ret
        exact ⟨rfl, HB.out⟩
theorem jset4 {w : World} {g : Nat} {a b c d : Value} {ty : TypeId} (h : w.heap[g]? = some (.cells #[a, b, c, d] ty (0, 0))) (x y z u : Value) :
    ((((w.setCell ⟨g, 0, none⟩ x).setCell ⟨g, 1, none⟩ y).setCell ⟨g, 2, none⟩ z).setCell ⟨g, 3, none⟩ u).heap[g]? = some (.cells #[x, y, z, u] ty (0, 0)) :=
  db_set (i := 3) (v := u) (db_set (i := 2) (v := z) (db_set (i := 1) (v := y) (db_set (i := 0) (v := x) h rfl) rfl) rfl) rfl
set_option maxHeartbeats 8000000 in
theorem torn_main (t : Nat → ByteArray) (ao : Option Addr) (n cap : Nat) (hn : n ≤ 12) (hz : ∀ i, i < n → (t i).size ≤ 9223372036854775807) (hall : ∀ i, i < n → (t i).size ≤ 100) (r : ByteArray) (hr : r.size ≤ 100) (f keep : Int) (hf : -1 ≤ f ∧ f ≤ 9223372036854775807) (w : World) (ht : Tab w) (h : StrsAt w ao n (fun i => .string (t i))) :
    Calls Tryd.prog 3 #[.slice ao n cap, .string r, .agg #[.int .i64 f, .int .i64 keep]] w (Ret (.bool true) w) := by
  have hre := len_eq r
  have hlen := framesL_len2 t n hall
  have hmem : ∀ x, x ∈ lst t n → x.length ≤ 100 := fun x hx => by
    unfold lst at hx
    obtain ⟨i, hi, rfl⟩ := List.mem_map.1 hx
    have h1 := hall i (List.mem_range.1 hi)
    have h2 := len_eq (t i)
    omega
  have hmem2 : ∀ x, x ∈ lst t n → x.length ≤ 1024 := fun x hx => by have := hmem x hx; omega
  have hsc0 := scan_frames (lst t n) hmem2
  obtain ⟨S1, T1, F1, D1, E1, S2, rs, m, er, S3, T3, F3, D3, hap, hsm, hcr, hs2, hsc, hct, hfate⟩ := torn_facts (lst t n) hmem (by omega) r.data.toList (by omega) f keep hf.1
  have HM := Lib.hid (fun W (hW : StrsAt W ao n (fun i => .string (t i))) => made_any t ao n cap hn hz W hW)
  have HAP := Lib.hid (fun W (hW : Tab W) => japp_any ⟨(framesL (lst t n)).toArray⟩ f (by show (framesL (lst t n)).length ≤ 3000; omega) hf W hW (lst t n) 0 hsc0 r.data.toList (by omega))
  rw [hap, ofl12] at HAP
  have HCR := Lib.hid (fun W => dcrash_any S1 T1 F1 D1 hsm keep W)
  rw [hcr] at HCR
  have HMD := Lib.hid (fun W (hW : Tab W) => mend_any S2 (-1) hs2 (by decide) W hW rs m er hsc S3 T3 F3 D3 0 hct)
  have HAW := Lib.hid (fun W (hW : Tab W) => awake12_any W hW)
  have HTB : Hid (∀ w', Below w.heap.size w w' → Tab w') := fun w' hb => Tab.below ht hb ht.lt
  have HST := Lib.hid h
  have HALL := Lib.hid hall
  have HFT := Lib.hid hfate
  have d1 : decide (12 < (n : Int)) = false := decide_eq_false (by omega)
  have d2 : decide (12 < n) = false := decide_eq_false (by omega)
  have d3 : decide (100 < (r.size : Int)) = false := decide_eq_false (by omega)
  have d4 : decide (100 < r.size) = false := decide_eq_false (by omega)
  have d5 : decide (f < -1) = false := decide_eq_false (by omega)
  have B0 := Lib.hid ((Below.refl w.heap.size w).alloc (Nat.le_refl _) (.cells #[.int .i64 f, .int .i64 keep] 23))
  have n2 : (n : Int) ≤ 12 := by omega
  have NN := Lib.hid hn
  have r2 : (r.size : Int) ≤ 100 := by omega
  obtain ⟨i0, hinf, hz0, hz1, hz2⟩ := info_parts infoS'
  obtain ⟨S0, hS0⟩ : ∃ S0, (⟨(framesL (lst t n)).toArray⟩ : ByteArray) = S0 := ⟨_, rfl⟩
  have HS0 := Lib.hid hS0
  rw [hS0] at HAP
  clear hre hlen hmem hmem2 hsc0 hap hsm hcr hs2 hsc hct hfate hn hz hall hr hf ht h hS0
  go_enter Tryd.func3, Tryd.ntmps3
  go_wp2_with fail
  go_region
  all_goals
    go_wp2_with fail
    refine (HM.out _ (HST.out.below B0.out.drew)).mono ?_
    rintro en w1 ⟨b1, ⟨_, rfl⟩ | ⟨hno, _⟩⟩
    · rw [HS0.out]
      have B1 : Hid (Below w.heap.size w w1) := B0.out.drew.trans (b1.mono B0.out.drew.size)
      have ST1 := Lib.hid (HST.out.below B1.out)
      have X3 := Lib.hid (heap_alloc_new w1 (.cells #[.string S0, .string ⟨#[]⟩, .int .i64 f, .bool false] 26))
      have BL3 : Hid (Below w.heap.size w (w1.alloc (.cells #[.string S0, .string ⟨#[]⟩, .int .i64 f, .bool false] 26))) := B1.out.alloc B1.out.size _
      have ST3 := Lib.hid (ST1.out.below ((Below.refl w1.heap.size w1).alloc (Nat.le_refl _) (.cells #[.string S0, .string ⟨#[]⟩, .int .i64 f, .bool false] 26)))
      clear b1
      go_wp2_with fail
      refine (HAP.out _ (HTB.out _ BL3.out)).mono ?_
      rintro en w4 ⟨rfl, b4⟩
      have X4 : Hid (w4.heap[w1.heap.size]? = some (.cells #[.string S0, .string ⟨#[]⟩, .int .i64 f, .bool false] 26 (0, 0))) := (b4.block _ (lt_of_block X3.out)).trans X3.out
      have ST4 := Lib.hid (ST3.out.below b4)
      have BL4 := Lib.hid (BL3.out.trans (b4.mono BL3.out.size))
      have HLB : Hid (w.heap.size ≤ w1.heap.size) := B1.out.size
      have HL4 : Hid (w1.heap.size < w4.heap.size) := lt_of_block X4.out
      clear b4
      have f0 := four_free X4.out 0
      have f1 := four_free X4.out 1
      have f2 := four_free X4.out 2
      have f3 := four_free X4.out 3
      obtain ⟨c0, c1, c2, c3⟩ := four_read X4.out
      have X5 := Lib.hid (jset4 X4.out (.string S1) (.string T1) (.int .i64 F1) (.bool D1))
      obtain ⟨e0, e1, e2, e3⟩ := four_read X5.out
      have BL5 : Hid (Below w.heap.size w ((((w4.setCell ⟨w1.heap.size, 0, none⟩ (.string S1)).setCell ⟨w1.heap.size, 1, none⟩ (.string T1)).setCell ⟨w1.heap.size, 2, none⟩ (.int .i64 F1)).setCell ⟨w1.heap.size, 3, none⟩ (.bool D1))) := below_four BL4.out HLB.out _ _ _ _
      go_wp2_with fail
      refine (HCR.out _).mono ?_
      rintro en w6 ⟨rfl, b6⟩
      have X6 := Lib.hid ((b6.block _ (lt_of_block X5.out)).trans X5.out)
      have BL6 := Lib.hid (BL5.out.trans (b6.mono BL5.out.size))
      clear b6
      clear f0 f1 f2 f3 c0 c1 c2 c3 e0 e1 e2 e3
      have f0 := four_free X6.out 0
      have f1 := four_free X6.out 1
      have f2 := four_free X6.out 2
      have f3 := four_free X6.out 3
      obtain ⟨c0, c1, c2, c3⟩ := four_read X6.out
      have X7 := Lib.hid (jset4 X6.out (.string S2) (.string ⟨#[]⟩) (.int .i64 (-1)) (.bool false))
      obtain ⟨e0, e1, e2, e3⟩ := four_read X7.out
      have BL7 : Hid (Below w.heap.size w ((((w6.setCell ⟨w1.heap.size, 0, none⟩ (.string S2)).setCell ⟨w1.heap.size, 1, none⟩ (.string ⟨#[]⟩)).setCell ⟨w1.heap.size, 2, none⟩ (.int .i64 (-1))).setCell ⟨w1.heap.size, 3, none⟩ (.bool false))) := below_four BL6.out HLB.out _ _ _ _
      go_wp2_with fail
      refine (HMD.out _ (HTB.out _ BL7.out)).mono ?_
      rintro en w8 ⟨b8, ⟨h0, _⟩ | ⟨_, bo, cap2, rfl, hst, hlo⟩⟩
      · exact absurd rfl h0
      have X8 := Lib.hid ((b8.block _ (lt_of_block X7.out)).trans X7.out)
      have BL8 := Lib.hid (BL7.out.trans (b8.mono BL7.out.size))
      have HLO : Hid (∀ a, bo = some a → a.block ≠ w1.heap.size) := fun a ha => by have h1 := hlo a ha; have h2 := lt_of_block X7.out; omega
      have GT8 := Lib.hid hst
      clear b8 hst hlo
      clear f0 f1 f2 f3 c0 c1 c2 c3 e0 e1 e2 e3
      have f0 := four_free X8.out 0
      have f1 := four_free X8.out 1
      have f2 := four_free X8.out 2
      have f3 := four_free X8.out 3
      obtain ⟨c0, c1, c2, c3⟩ := four_read X8.out
      have X9 := Lib.hid (jset4 X8.out (.string S3) (.string T3) (.int .i64 F3) (.bool D3))
      obtain ⟨e0, e1, e2, e3⟩ := four_read X9.out
      have BL9 : Hid (Below w.heap.size w ((((w8.setCell ⟨w1.heap.size, 0, none⟩ (.string S3)).setCell ⟨w1.heap.size, 1, none⟩ (.string T3)).setCell ⟨w1.heap.size, 2, none⟩ (.int .i64 F3)).setCell ⟨w1.heap.size, 3, none⟩ (.bool D3))) := below_four BL8.out HLB.out _ _ _ _
      have GT9 := Lib.hid (GT8.out.four HLO.out (.string S3) (.string T3) (.int .i64 F3) (.bool D3))
      have ST9 := Lib.hid (HST.out.below BL9.out)
      obtain ⟨w9, hw9⟩ : ∃ x, x = ((((w8.setCell ⟨w1.heap.size, 0, none⟩ (.string S3)).setCell ⟨w1.heap.size, 1, none⟩ (.string T3)).setCell ⟨w1.heap.size, 2, none⟩ (.int .i64 F3)).setCell ⟨w1.heap.size, 3, none⟩ (.bool D3)) := ⟨_, rfl⟩
      rw [← hw9] at BL9 GT9 ST9
      go_wp2_with fail
      rw [← hw9]
      clear hw9
      clear f0 f1 f2 f3 c0 c1 c2 c3 e0 e1 e2 e3
      go_loopw [15, 16] (fun av iv wr => ∃ j : Nat, j ≤ n ∧ iv = .int .i64 j ∧ wr.ownsRow w9.heap.size 9 1 av (lst t j).length ((lst t j).map tv) ∧ Below w9.heap.size w9 wr) (fun _ iv _ => n - (intOf iv).toNat)
      case atStart => exact ⟨0, Nat.zero_le _, rfl, World.ownsRow_nil _ _ _ _, Below.refl _ _⟩
      case round =>
        obtain ⟨j, hj, rfl, hown, hbel⟩ := hrel
        have hj2 : (j : Int) ≤ n := by omega
        obtain ⟨qo, qc, rfl, _⟩ := strs_of_owned hown
        have hjl : (lst t j).length = j := lst_length t j
        have hn12 := NN.out
        by_cases hlt : j < n
        · have hlt2 : (j : Int) < n := by omega
          have HLT := Lib.hid hlt
          obtain ⟨b, off, rfl, hblt, hcs⟩ := ST9.out.below hbel (by omega)
          have c0 : wr.cell? ⟨b, off + j, none⟩ = some (.string (t j)) := hcs j hlt
          have HNX : Hid (tv (t j).data.toList = .string (t j)) := by show tv _ = _; unfold tv; rw [ofl12]
          have HLS := Lib.hid (lst_succ t j)
          have hbase : w9.heap.size ≤ wr.heap.size := hbel.size
          rw [hjl] at hown ⊢
          obtain ⟨x, hx⟩ : ∃ x, t j = x := ⟨_, rfl⟩
          rw [hx] at c0
          have HX := Lib.hid hx
          clear hcs hblt hx hjl
          go_wp2_with (at_builtin; refine wpList_append_near _ rfl _ _ 22 rfl w9.heap.size 9 i0 (.string ⟨#[]⟩) 16 Tryd.underlying22 hinf hz0 hz1 hz2 rfl _ j _ rfl (hown.alloc _) ⟨wr.heap.size, 0, none⟩ 1 (.string x) rfl ?a1 rfl ?a3 ?a4 ?a5 ?_)
          try (case a1 => rw [World.cell?_alloc_new]; rfl)
          case a3 => unfold maxLen; omega
          case a4 => omega
          case a5 => simp; omega
          intro v3 w3 hown3 hgrow3 _
          have HO3 : Hid (w3.ownsRow w9.heap.size 9 1 v3 (lst t (j + 1)).length ((lst t (j + 1)).map tv)) := by
            show World.ownsRow _ _ _ _ _ _ _
            rw [lst_length, HLS.out, List.map_append]
            have e : ([(t j).data.toList].map tv) = [Value.string x] := by rw [← HX.out]; simp [HNX.out]
            rw [e]
            exact hown3
          have HB3 : Hid (Below w9.heap.size w9 w3) := (hbel.alloc hbel.size _).grown hgrow3 (by simp; omega) (fun k' hk' => (hown.lt k' hk').1)
          clear hown3 hgrow3 hown hbel hbase hlt
          go_wp2_with fail
          go_roundw
          case rel => exact ⟨j + 1, by have := HLT.out; omega, by go_num, HO3.out, HB3.out⟩
          case measure => have := HLT.out; simp [intOf]; omega
        · have heq : j = n := by omega
          subst heq
          have hlt2 : ¬ ((j : Nat) : Int) < j := by omega
          have hbase : w9.heap.size ≤ wr.heap.size := hbel.size
          have HNX : Hid (tv r.data.toList = .string r) := by show tv _ = _; unfold tv; rw [ofl12]
          rw [hjl] at hown ⊢
          clear hjl
          go_wp2_with (at_builtin; refine wpList_append_near _ rfl _ _ 22 rfl w9.heap.size 9 i0 (.string ⟨#[]⟩) 16 Tryd.underlying22 hinf hz0 hz1 hz2 rfl _ j _ rfl (hown.alloc _) ⟨wr.heap.size, 0, none⟩ 1 (.string r) rfl ?b1 rfl ?b3 ?b4 ?b5 ?_)
          try (case b1 => rw [World.cell?_alloc_new]; rfl)
          case b3 => unfold maxLen; omega
          case b4 => omega
          case b5 => first | omega | (simp; omega) | exact Nat.le_trans hbase (by simp)
          intro v3 w3 hown3 hgrow3 _
          have hO3 : w3.ownsRow w9.heap.size 9 1 v3 (lst t j ++ [r.data.toList]).length ((lst t j ++ [r.data.toList]).map tv) := by
            rw [List.length_append, lst_length, List.map_append]
            have e : ([r.data.toList].map tv) = [Value.string r] := by simp [HNX.out]
            rw [e]
            exact hown3
          have HB3 : Hid (Below w9.heap.size w9 w3) := (hbel.alloc hbel.size _).grown hgrow3 (by simp; omega) (fun k' hk' => (hown.lt k' hk').1)
          obtain ⟨ro, rc, rfl, hrs, _⟩ := strs_of_owned hO3
          have RS := Lib.hid hrs
          have GT := Lib.hid (GT9.out.below HB3.out)
          have ST := Lib.hid (ST9.out.below HB3.out)
          have BW : Hid (Below w.heap.size w w3) := BL9.out.trans (HB3.out.mono BL9.out.size)
          have hlen1 : (lst t j ++ [r.data.toList]).length = j + 1 := by rw [List.length_append, lst_length]; rfl
          clear hown3 hgrow3 hown hbel hbase hO3 hrs hlt
          have hft := HFT.out
          rcases hft with hrs | ⟨hrs, hE1⟩
          · have SM : Hid (Calls Tryd.prog 11 #[.slice bo (lst t j ++ [r.data.toList]).length cap2, .slice ro (lst t j ++ [r.data.toList]).length rc] w3 (Ret (.bool true) w3)) := by
              have g1 := GT.out
              have g2 := RS.out
              rw [hrs] at g1
              rw [texts_string] at g1 g2
              exact same_any _ cap2 rc bo ro _ (by rw [hlen1]; omega) w3 g1 g2
            rw [hrs]
            rw [hlen1] at SM ⊢
            clear hrs hlen1
            go_wp2_with fail
            refine SM.out.mono ?_
            rintro en w10 ⟨rfl, b10⟩
            have B10 : Hid (Below w.heap.size w w10) := BW.out.trans (b10.mono BW.out.size)
            clear b10
            go_wp2_with fail
            refine (HAW.out _ (HTB.out _ B10.out)).mono ?_
            rintro en w11 ⟨rfl, b11⟩
            have B11 : Hid (Below w.heap.size w w11) := B10.out.trans (b11.mono B10.out.size)
            clear b11
            go_wp2_with fail
            go_ret
            exact ⟨rfl, B11.out⟩
          · have hlr : rs.length = j := by rw [hrs, lst_length]
            have SM : Hid (Calls Tryd.prog 11 #[.slice bo j cap2, .slice ro (j + 1) rc] w3 (Ret (.bool false) w3)) := same_len bo ro j (j + 1) cap2 rc (by omega) (by omega) w3
            have GT2 : Hid (StrsAt w3 bo j (fun i => .string (t i))) := by
              have g1 := GT.out
              rw [hlr] at g1
              refine g1.mono (Nat.le_refl _) (fun i hi => ?_)
              rw [hrs]
              unfold texts tv lst
              simp only [List.getD_eq_getElem?_getD, List.getElem?_map, List.getElem?_range hi, Option.map_some, Option.getD_some]
              try rw [ofl12]
            have SM2 := Lib.hid (fun W (h1 : StrsAt W bo j (fun i => .string (t i))) (h2 : StrsAt W ao j (fun i => .string (t i))) => same_any j cap2 cap bo ao t (by omega) W h1 h2)
            have dE1 : (E1 == 0) = false := by simp [hE1]
            have dE2 : (E1 != 0) = true := by simp [hE1]
            rw [hlr, hlen1]
            clear hrs hlr hlen1 hE1
            go_wp2_with fail
            refine SM.out.mono ?_
            rintro en w10 ⟨rfl, b10⟩
            have B10 : Hid (Below w.heap.size w w10) := BW.out.trans (b10.mono BW.out.size)
            have G10 := Lib.hid (GT2.out.below b10)
            have S10 := Lib.hid (ST.out.below b10)
            clear b10
            go_wp2_with fail
            refine (HAW.out _ (HTB.out _ B10.out)).mono ?_
            rintro en w11 ⟨rfl, b11⟩
            have B11 : Hid (Below w.heap.size w w11) := B10.out.trans (b11.mono B10.out.size)
            have G11 := Lib.hid (G10.out.below b11)
            have S11 := Lib.hid (S10.out.below b11)
            clear b11
            go_wp2_with fail
            refine (SM2.out _ G11.out S11.out).mono ?_
            rintro en w12 ⟨rfl, b12⟩
            have B12 : Hid (Below w.heap.size w w12) := B11.out.trans (b12.mono B11.out.size)
            clear b12
            go_wp2_with fail
            go_ret
            exact ⟨rfl, B12.out⟩
    · exact absurd HALL.out hno
set_option maxHeartbeats 4000000 in
theorem torn_bad (t : Nat → ByteArray) (ao : Option Addr) (n cap : Nat) (hn : n ≤ 12) (hz : ∀ i, i < n → (t i).size ≤ 9223372036854775807) (hall : ¬ ∀ i, i < n → (t i).size ≤ 100) (r : ByteArray) (hr : r.size ≤ 100) (f keep : Int) (hf : -1 ≤ f ∧ f ≤ 9223372036854775807) (w : World) (ht : Tab w) (h : StrsAt w ao n (fun i => .string (t i))) :
    Calls Tryd.prog 3 #[.slice ao n cap, .string r, .agg #[.int .i64 f, .int .i64 keep]] w (Ret (.bool true) w) := by
  have HM := Lib.hid (fun W (hW : StrsAt W ao n (fun i => .string (t i))) => made_any t ao n cap hn hz W hW)
  have HAW := Lib.hid (fun W (hW : Tab W) => awake12_any W hW)
  have HTB : Hid (∀ w', Below w.heap.size w w' → Tab w') := fun w' hb => Tab.below ht hb ht.lt
  have HST := Lib.hid h
  have HALL := Lib.hid hall
  have d1 : decide (12 < (n : Int)) = false := decide_eq_false (by omega)
  have d2 : decide (12 < n) = false := decide_eq_false (by omega)
  have d3 : decide (100 < (r.size : Int)) = false := decide_eq_false (by omega)
  have d4 : decide (100 < r.size) = false := decide_eq_false (by omega)
  have d5 : decide (f < -1) = false := decide_eq_false (by omega)
  have B0 := Lib.hid ((Below.refl w.heap.size w).alloc (Nat.le_refl _) (.cells #[.int .i64 f, .int .i64 keep] 23))
  have n2 : (n : Int) ≤ 12 := by omega
  have r2 : (r.size : Int) ≤ 100 := by omega
  clear hn hz hall hr hf ht h
  go_enter Tryd.func3, Tryd.ntmps3
  go_wp2_with fail
  go_region
  all_goals
    go_wp2_with fail
    refine (HM.out _ (HST.out.below B0.out.drew)).mono ?_
    rintro en w1 ⟨b1, ⟨hyes, _⟩ | ⟨_, S, rfl⟩⟩
    · exact absurd hyes HALL.out
    · have B1 : Hid (Below w.heap.size w w1) := B0.out.drew.trans (b1.mono B0.out.drew.size)
      have B2 : Hid (Below w.heap.size w (w1.alloc (.cells #[.string S, .string ⟨#[]⟩, .int .i64 (-1), .bool false] 26))) := B1.out.alloc B1.out.size _
      clear b1
      go_wp2_with fail
      refine (HAW.out _ (HTB.out _ B2.out)).mono ?_
      rintro en w2 ⟨rfl, b2⟩
      have B3 : Hid (Below w.heap.size w w2) := B2.out.trans (b2.mono B2.out.size)
      clear b2
      go_wp2_with fail
      go_ret
      exact ⟨rfl, B3.out⟩
end Go.Proofs.YtbpaongnehgodaaDoor
