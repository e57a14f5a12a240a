/- Package money: Parse: for every text. -/
import Derived.Test.YtcclhblkchghbaaDoorMoneyParseMath
import Derived.Lib.ParseIntBTie
import Derived.Lib.ParseIntBMem
namespace Go.Proofs.YtcclhblkchghbaaDoor
open Go.ChangeShapes Go.WideShapes Go.ChangeAt Go.RowKit
theorem below_drewN (w : World) (n : Nat) : Below w.heap.size w (w.drewN n) := ⟨rfl, rfl, rfl, Nat.le_refl _, fun _ _ => rfl⟩
/-- What the library's variables hold, as far as the walks ask it. -/
structure Vars (w : World) : Prop where
  tab : Tab w
  max : ∃ m, w.cell? ⟨0, 0, none⟩ = some (.int .i64 m)
  syn : ∃ ev, w.cell? ⟨1, 0, none⟩ = some ev ∧ (ev = .nilIface ∨ ∃ te pe, ev = .iface te pe)
  ran : ∃ ev, w.cell? ⟨2, 0, none⟩ = some ev ∧ (ev = .nilIface ∨ ∃ te pe, ev = .iface te pe)
theorem cell_next {w w' : World} {a : Addr} {v : Value} (h : w.cell? a = some v) (hb : Below w.heap.size w w') : w'.cell? a = some v :=
  (hb.cell (World.block_lt_of_cell? w a h)).trans h
theorem Vars.next {w w' : World} (h : Vars w) (hb : Below w.heap.size w w') : Vars w' := by
  obtain ⟨h1, ⟨m, h2⟩, ⟨e1, h3, h4⟩, ⟨e2, h5, h6⟩⟩ := h
  exact ⟨h1.next hb, ⟨m, cell_next h2 hb⟩, ⟨e1, cell_next h3 hb, h4⟩, ⟨e2, cell_next h5 hb, h6⟩⟩
/-- What Parse tells of a text. -/
noncomputable def parseV (l : List UInt8) : Value :=
  if 21 < l.length then .tuple #[.int .i64 0, .int .i64 3]
  else match Lib.parseIntB 64 ((Lib.cut l [46]).1 ++ (Lib.cut l [46]).2.1) with
    | .ok v => if textL v = l then .tuple #[.int .i64 v, .int .i64 0] else .tuple #[.int .i64 0, .int .i64 3]
    | _ => .tuple #[.int .i64 0, .int .i64 3]
theorem parseV_text (v : Int) (hv : -9223372036854775808 ≤ v ∧ v ≤ 9223372036854775807) : parseV (textL v) = .tuple #[.int .i64 v, .int .i64 0] := by
  have h := textL_len v hv
  have hp := parseI_text v hv
  unfold parseV
  rw [if_neg (by omega), cut_text]
  show (match Lib.parseIntB 64 (signL v ++ Lib.decDigits (v.natAbs / 100) ++ (Lib.decDigits (v.natAbs % 100 / 10) ++ Lib.decDigits (v.natAbs % 10))) with
    | .ok v' => if textL v' = textL v then Value.tuple #[.int .i64 v', .int .i64 0] else .tuple #[.int .i64 0, .int .i64 3]
    | _ => .tuple #[.int .i64 0, .int .i64 3]) = _
  rw [List.append_assoc]
  unfold flat at hp
  rw [hp]
  show (if textL v = textL v then Value.tuple #[.int .i64 v, .int .i64 0] else _) = _
  rw [if_pos rfl]
theorem parseV_none (l : List UInt8) (h : ∀ v : Int, -9223372036854775808 ≤ v ∧ v ≤ 9223372036854775807 → textL v ≠ l) : parseV l = .tuple #[.int .i64 0, .int .i64 3] := by
  unfold parseV
  split
  · rfl
  · split
    · rename_i v hv
      have hb := Lib.parseIntB_bounds hv
      simp only [Nat.reduceSub, Nat.reducePow] at hb
      rw [if_neg (h v (by omega))]
    · rfl
set_option maxHeartbeats 2000000 in
theorem parse_any (s : ByteArray) (hs : s.size ≤ 1000000) (w : World) (hV : Vars w) :
    Calls Tryd.prog 21 #[.string s] w (Ret (parseV s.data.toList) w) := by
  have hl : s.data.toList.length = s.size := by simp
  by_cases hlong : 21 < s.size
  · have HE := Lib.hid (show parseV s.data.toList = .tuple #[.int .i64 0, .int .i64 3] from if_pos (by omega))
    have h1 : (21 : Int) < s.size := by omega
    clear hl hlong
    go_enter Tryd.func21, Tryd.ntmps21
    go_wp2_with fail
    go_ret2
    exact ⟨by rw [HE.out]; rfl, Below.refl _ _⟩
  · have HE := Lib.hid (show parseV s.data.toList = _ from if_neg (by omega))
    obtain ⟨m, hm⟩ := hV.max
    have HC := Lib.hid (Tryd.strings_Cut s ⟨#[46]⟩ m w (by omega) hm)
    rw [show (⟨#[46]⟩ : ByteArray).data.toList = [46] from rfl] at HC
    have hA : (Lib.cut s.data.toList [46]).1.length ≤ 1000000 ∧ (Lib.cut s.data.toList [46]).2.1.length ≤ 1000000 := by
      unfold Lib.cut
      split <;> simp <;> omega
    generalize (Lib.cut s.data.toList [46]).1 = A at *
    generalize (Lib.cut s.data.toList [46]).2.1 = B at *
    generalize (Lib.cut s.data.toList [46]).2.2 = is at *
    have h1 : ¬ (21 : Int) < s.size := by omega
    have HV := Lib.hid hV
    clear hl hlong hm hV
    have HA := Lib.hid hA
    clear hA
    go_enter Tryd.func21, Tryd.ntmps21
    go_wp2_with fail
    refine HC.out.mono ?_
    rintro e w1 ⟨rfl, n, rfl⟩
    have HB1 := Lib.hid (below_drewN w n)
    have HV1 := Lib.hid (HV.out.next HB1.out)
    generalize w.drewN n = w1 at *
    go_wp2_with fail
    have HJ := join_any w1.heap.size 0 2 [⟨A.toArray⟩, ⟨B.toArray⟩] (w1.alloc (.cells #[.string ⟨A.toArray⟩, .string ⟨B.toArray⟩] 9)) (fun j x hx => by rw [World.cell?_alloc_new, Nat.zero_add]; rcases j with _ | _ | j <;> simp at hx <;> subst hx <;> rfl) (by simp) (by simp) (by simp) (by have := HA.out; simp; omega)
    rw [show (([⟨A.toArray⟩, ⟨B.toArray⟩] : List ByteArray).map (·.data.toList)).flatten = A ++ B from by simp] at HJ
    refine HJ.mono ?_
    rintro e w2 ⟨rfl, h2⟩
    have HB2 : Hid (Below w.heap.size w w2) := HB1.out.trans ((((Below.refl _ _).alloc (Nat.le_refl _) _).trans (h2.mono (by simp))).mono HB1.out.size)
    have HV2 := Lib.hid (HV.out.next HB2.out)
    clear h2 HJ
    have hL : (A ++ B).length ≤ 2000000 := by have := HA.out; simp; omega
    generalize A ++ B = l at *
    unfold txt
    go_wp2_with fail
    cases hp : Lib.parseIntB 64 l
    · rename_i v
      have hb := Lib.parseIntB_bounds hp
      simp only [Nat.reduceSub, Nat.reducePow] at hb
      have hv : -9223372036854775808 ≤ v ∧ v ≤ 9223372036854775807 := by omega
      have HT := Lib.hid (text_any v hv)
      have hE := HE.out
      rw [hp] at hE
      have HPI := Lib.hid (Tryd.strconv_ParseInt_10_at64_ok ⟨l.toArray⟩ (by show l.toArray.size ≤ _; simp; omega) v hp w2)
      clear hb hp hL HE
      refine HPI.out.mono ?_
      rintro e w3 ⟨rfl, h3⟩
      have HB3 : Hid (Below w.heap.size w w3) := by
        show Below w.heap.size w w3
        rcases h3 with rfl | ⟨t, rfl⟩
        · exact HB2.out
        · exact HB2.out.trans ((Lib.bytesWorld_below _ _ _).mono HB2.out.size)
      have HV3 := Lib.hid (HV.out.next HB3.out)
      clear h3
      have HE2 := Lib.hid hE
      clear hE
      by_cases he : textL v = s.data.toList
      · have hq : (textL v == s.toList) = true := by rw [ByteArray.toList_eq, he]; simp
        have HR : Hid (parseV s.data.toList = .tuple #[.int .i64 v, .int .i64 0]) := HE2.out.trans (if_pos he)
        clear HE2 he
        go_wp2_with fail
        refine (HT.out _ HV3.out.tab).mono ?_
        rintro e w4 ⟨rfl, h4⟩
        have HB4 : Hid (Below w.heap.size w w4) := HB3.out.trans (h4.mono HB3.out.size)
        clear h4
        unfold txt
        generalize textL v = tl at *
        go_wp2_with fail
        go_ret2
        exact ⟨by rw [HR.out]; rfl, HB4.out⟩
      · have hq : (textL v == s.toList) = false := by rw [ByteArray.toList_eq]; simpa using he
        have HR : Hid (parseV s.data.toList = .tuple #[.int .i64 0, .int .i64 3]) := HE2.out.trans (if_neg he)
        clear HE2 he
        go_wp2_with fail
        refine (HT.out _ HV3.out.tab).mono ?_
        rintro e w4 ⟨rfl, h4⟩
        have HB4 : Hid (Below w.heap.size w w4) := HB3.out.trans (h4.mono HB3.out.size)
        clear h4
        unfold txt
        generalize textL v = tl at *
        go_wp2_with fail
        go_ret2
        exact ⟨by rw [HR.out]; rfl, HB4.out⟩
    · obtain ⟨ev, hev, hev2⟩ := HV2.out.syn
      have hE := HE.out
      rw [hp] at hE
      have HE2 := Lib.hid hE
      have HPI := Lib.hid (Tryd.strconv_ParseInt_10_at64_syntax ⟨l.toArray⟩ (by show l.toArray.size ≤ _; simp; omega) hp ev w2 hev hev2)
      clear hp hL HE hE hev hev2
      refine HPI.out.mono ?_
      rintro e w3 ⟨N, rfl, hN, hN2, h3⟩
      have HB3 : Hid (Below w.heap.size w w3) := HB2.out.trans (h3.mono HB2.out.size)
      clear h3 hN hN2
      go_wp2_with fail
      go_ret2
      exact ⟨by rw [HE2.out]; rfl, HB3.out⟩
    · obtain ⟨ev, hev, hev2⟩ := HV2.out.ran
      have hE := HE.out
      rw [hp] at hE
      have HE2 := Lib.hid hE
      have HPI := Lib.hid (Tryd.strconv_ParseInt_10_at64_range ⟨l.toArray⟩ (by show l.toArray.size ≤ _; simp; omega) hp ev w2 hev hev2)
      clear hp hL HE hE hev hev2
      refine HPI.out.mono ?_
      rintro e w3 ⟨N, rfl, hN, hN2, h3⟩
      have HB3 : Hid (Below w.heap.size w w3) := HB2.out.trans (h3.mono HB2.out.size)
      clear h3 hN hN2
      go_wp2_with fail
      go_ret2
      exact ⟨by rw [HE2.out]; rfl, HB3.out⟩
end Go.Proofs.YtcclhblkchghbaaDoor
