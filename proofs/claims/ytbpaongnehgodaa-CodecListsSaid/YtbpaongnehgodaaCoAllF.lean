/- codec.All, walked. -/
import Derived.Test.YtbpaongnehgodaaCoAll
namespace Go.Proofs.Ytbpaongnehgodaa
open Go.ChangeShapes Go.WideShapes Go.ChangeAt Go.RowKit
theorem call_full (ao : Option Addr) (n cap : Nat) (hn : 1024 < n) (hn2 : n ≤ 1000000) (w : World) :
    Calls Try.prog 15 #[.slice ao n cap] w (Ret (.tuple #[.string ⟨#[]⟩, .int .i64 6]) w) := by
  have d1 : decide (1024 < (n : Int)) = true := decide_eq_true (by omega)
  have d2 : decide (1024 < n) = true := decide_eq_true hn
  clear hn hn2
  go_enter Try.func15, Try.ntmps15
  go_wp2_with fail
  go_ret2
  exact ⟨rfl, by go_grown⟩
/-- How far all are right. -/
def upR (f : Nat → Cm) (k : Nat) : Prop := ∀ i, i < k → rightV (f i) = true
/-- What All answers. -/
def allA (f : Nat → Cm) (n : Nat) (x : Value) : Prop := (upR f n → x = .tuple #[txt (encN (codeN n) ++ flatB f n), .int .i64 0]) ∧ (¬ upR f n → x = .tuple #[.string ⟨#[]⟩, .int .i64 3])
set_option maxHeartbeats 4000000 in
theorem call_any (f : Nat → Cm) (hf : ∀ i, (f i).In) (ao : Option Addr) (n cap : Nat) (hn : n ≤ 1024) (w : World) (h : CmsAt w ao n f) :
    Calls Try.prog 15 #[.slice ao n cap] w (fun e w' => ∃ x, allA f n x ∧ Ret x w e w') := by
  have d1 : decide (1024 < (n : Int)) = false := decide_eq_false (by omega)
  have d2 : decide (1024 < n) = false := decide_eq_false (by omega)
  have hn2 : (n : Int) ≤ 1024 := by omega
  have HP := Lib.hid (fun k W => cput_top (f k) (hf k) W)
  have HN := Lib.hid (put_any (n : Int) (by omega) w)
  have HL0 : Hid ((encN (codeN (n : Int))).length ≤ 10) := encN_len (codeN_lt (by omega))
  have HFL := Lib.hid (flatB_len f hf)
  have HCM := Lib.hid h
  have HBC := Lib.hid (fun k => bytesC_len (f k) (hf k))
  obtain ⟨i0, hinf, hz0, hz1, hz2⟩ := info_parts infoB8
  obtain ⟨H0, hH0⟩ : ∃ H0, encN (codeN (n : Int)) = H0 := ⟨_, rfl⟩
  have HA : Hid ((upR f n → ∀ x, x = .tuple #[txt (H0 ++ flatB f n), .int .i64 0] → allA f n x) ∧ (¬ upR f n → ∀ x, x = .tuple #[.string ⟨#[]⟩, .int .i64 3] → allA f n x)) := by
    constructor
    · intro h x hx
      exact ⟨fun _ => by rw [hH0]; exact hx, fun h2 => absurd h h2⟩
    · intro h x hx
      exact ⟨fun h2 => absurd h2 h, fun _ => hx⟩
  rw [hH0] at HN HL0
  clear h hf hn hH0
  unfold txt at HN
  go_enter Try.func15, Try.ntmps15
  go_wp2_with fail
  refine HN.out.mono ?_
  rintro e w1 ⟨rfl, h1⟩
  have hcv := run_bytes_of_string (P := Try.prog) w1 9 62 5 ⟨H0.toArray⟩ Try.underlying9 Try.underlying62 Try.underlying5
  have hge := grownCap_ge w1 H0.length 0 5
  have HO := Lib.hid (OwnM.made w1 w.heap.size h1.size H0 _ hge)
  have HB : Hid (Below w.heap.size w (w1.drew.alloc (.cells (bytesRow ⟨H0.toArray⟩ (grownCap w1 H0.length 0 5)) 5 ((bytesRow ⟨H0.toArray⟩ (grownCap w1 H0.length 0 5)).size, (bytesRow ⟨H0.toArray⟩ (grownCap w1 H0.length 0 5)).size + 1)))) := h1.drew.alloc h1.size _
  have hcv2 : (convert 9 62 (.string ⟨H0.toArray⟩)).run Try.prog w1 = .ok (.slice (some ⟨w1.heap.size, 0, none⟩) H0.length (grownCap w1 H0.length 0 5)) (w1.drew.alloc (.cells (bytesRow ⟨H0.toArray⟩ (grownCap w1 H0.length 0 5)) 5 ((bytesRow ⟨H0.toArray⟩ (grownCap w1 H0.length 0 5)).size, (bytesRow ⟨H0.toArray⟩ (grownCap w1 H0.length 0 5)).size + 1))) := hcv
  obtain ⟨w2, hw2⟩ : ∃ w2, (w1.drew.alloc (.cells (bytesRow ⟨H0.toArray⟩ (grownCap w1 H0.length 0 5)) 5 ((bytesRow ⟨H0.toArray⟩ (grownCap w1 H0.length 0 5)).size, (bytesRow ⟨H0.toArray⟩ (grownCap w1 H0.length 0 5)).size + 1))) = w2 := ⟨_, rfl⟩
  rw [hw2] at hcv2 HO HB
  obtain ⟨v0, hv0⟩ : ∃ v0, (Value.slice (some ⟨w1.heap.size, 0, none⟩) H0.length (grownCap w1 H0.length 0 5)) = v0 := ⟨_, rfl⟩
  rw [hv0] at hcv2 HO
  clear hcv hge hw2 hv0 h1
  go_wp2_with fail
  go_loopw [4, 18] (fun sv iv wr => ∃ k : Nat, k ≤ n ∧ iv = .int .i64 k ∧ OwnM wr w.heap.size sv (H0 ++ flatB f k) ∧ Below w.heap.size w wr ∧ upR f k) (fun _ iv _ => n - (intOf iv).toNat)
  case atStart => exact ⟨0, Nat.zero_le _, rfl, by rw [flatB, List.append_nil]; exact HO.out, HB.out, fun i hi => absurd hi (Nat.not_lt_zero i)⟩
  case round =>
    obtain ⟨k, hk, rfl, hown, hbel, hup⟩ := hrel
    have hk2 : (k : Int) ≤ n := by omega
    by_cases hlt : k < n
    · have hlt2 : (k : Int) < n := by omega
      obtain ⟨b, off, rfl, hblt, hcs⟩ := HCM.out.below hbel (by omega)
      obtain ⟨c0, c1, c2, c3, c4, c5, c6⟩ := hcs k hlt
      have HPK := Lib.hid (HP.out k)
      have HBK := Lib.hid (HBC.out k)
      have HFK := Lib.hid (HFL.out k)
      have HSU : Hid (flatB f (k + 1) = flatB f k ++ bytesC (f k)) := rfl
      have HO1 := Lib.hid hown
      have HB1 := Lib.hid hbel
      have HUP := Lib.hid hup
      have HLT := Lib.hid hlt
      have HBX := Lib.hid (fun w => boxes1 w (.cells #[.int .i64 (f k).k, .int .i64 (f k).i, .int .i64 (f k).m, .int .i64 (f k).o, .int .i64 (f k).s, .int .i64 (f k).q, .int .i64 (f k).p] 23))
      cases hr : rightV (f k) with
      | true =>
        have HR := Lib.hid hr
        have e1 : putA (f k) = .tuple #[txt (bytesC (f k)), .int .i64 0] := by unfold putA; rw [if_pos hr]
        rw [e1] at HPK
        obtain ⟨c, hc⟩ : ∃ c, f k = c := ⟨_, rfl⟩
        rw [hc] at HPK HBK HSU HR HBX c0 c1 c2 c3 c4 c5 c6
        obtain ⟨B, hBB⟩ : ∃ B, bytesC c = B := ⟨_, rfl⟩
        rw [hBB] at HPK HBK HSU
        obtain ⟨A, hA⟩ : ∃ A, flatB f k = A := ⟨_, rfl⟩
        rw [hA] at HSU HFK HO1
        unfold txt at HPK
        have HLN : Hid (H0 ++ flatB f (k + 1) = (H0 ++ A) ++ B) := by show _ = _; rw [HSU.out, List.append_assoc]
        have hl1 : (H0 ++ A).length + B.length ≤ 1000000000 := by
          have := HFK.out; have := HBK.out; have := HL0.out; have := HLT.out
          rw [List.length_append]; omega
        obtain ⟨L, hL⟩ : ∃ L, H0 ++ A = L := ⟨_, rfl⟩
        rw [hL] at HLN HO1 hl1
        clear hL
        obtain ⟨g0, cp0, cur0, fz0, rfl, hrest0⟩ := id HO1.out
        clear hown hbel hup hr e1 hBB hA hcs hblt hlt hrest0
        go_wp2_with fail
        refine (HPK.out _).mono ?_
        rintro e w4 ⟨rfl, h4⟩
        have b4 := below_of_box h4
        have HO4 := Lib.hid (HO1.out.kept b4)
        have HB4 : Hid (Below w.heap.size w w4) := HB1.out.trans (b4.mono HB1.out.size)
        clear h4 b4 c0 c1 c2 c3 c4 c5 c6
        have hhb : w.heap.size ≤ w4.heap.size := HB4.out.size
        go_wp2_with (at_builtin; refine wpList_append_M _ rfl _ _ 62 9 rfl w.heap.size i0 Try.underlying62 Try.underlying9 hinf hz0 hz1 hz2 _ L B rfl HO4.out rfl hl1 hhb ?_)
        intro v5 w5 hown5 hgrow5
        have HO5 := Lib.hid hown5
        have HB5 : Hid (Below w.heap.size w w5) := HB4.out.grown hgrow5 hhb (fun k' hk' => (HO4.out.lt k' hk').1)
        obtain ⟨g5, cp5, cur5, fz5, rfl, _⟩ := id hown5
        clear hown5 hgrow5 hl1 hhb
        go_wp2_with fail
        go_roundw
        case rel => exact ⟨k + 1, by have := HLT.out; omega, by go_num, by rw [HLN.out]; exact HO5.out, HB5.out, fun i hi => by
          rcases Nat.lt_or_ge i k with h | h
          · exact HUP.out i h
          · obtain rfl : i = k := by omega
            rw [hc]; exact HR.out⟩
        case measure => have := HLT.out; simp [intOf]; omega
      | false =>
        have HR := Lib.hid hr
        have e1 : putA (f k) = .tuple #[.string ⟨#[]⟩, .int .i64 3] := by unfold putA; rw [hr]; rfl
        rw [e1] at HPK
        have HFIN := Lib.hid (HA.out.2 (fun hu => by have := hu k hlt; rw [hr] at this; cases this) _ rfl)
        obtain ⟨c, hc⟩ : ∃ c, f k = c := ⟨_, rfl⟩
        rw [hc] at HPK HBX c0 c1 c2 c3 c4 c5 c6
        clear hown hbel hup hr e1 hcs hblt hlt hc
        go_wp2_with fail
        refine (HPK.out _).mono ?_
        rintro e w4 ⟨rfl, h4⟩
        have b4 := below_of_box h4
        have HB4 : Hid (Below w.heap.size w w4) := HB1.out.trans (b4.mono HB1.out.size)
        clear h4 b4
        go_wp2_with fail
        go_ret2
        exact ⟨_, HFIN.out, rfl, HB4.out⟩
    · have heq : k = n := by omega
      subst heq
      have hlt2 : ¬ ((k : Nat) : Int) < k := by omega
      have HFIN := Lib.hid (HA.out.1 hup _ rfl)
      obtain ⟨L, hL⟩ : ∃ L, H0 ++ flatB f k = L := ⟨_, rfl⟩
      rw [hL] at hown HFIN
      obtain ⟨g, cp, cur, fz, rfl, hrest⟩ := id hown
      have htx := hown.text
      have HB1 := Lib.hid hbel
      clear hown hbel hup hL hrest HA
      go_wp2_with fail
      go_ret2
      exact ⟨_, HFIN.out, rfl, HB1.out⟩
end Go.Proofs.Ytbpaongnehgodaa
