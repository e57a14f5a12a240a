/- FrameTorn, walked. -/
import Derived.Test.YtmepaeppkeaifaaDoorFrameLaw2
namespace Go.Proofs.YtmepaeppkeaifaaDoor
open Go.ChangeShapes Go.WideShapes Go.ChangeAt Go.RowKit
/-- The first so many texts. -/
def lst (t : Nat → ByteArray) (n : Nat) : List (List UInt8) := (List.range n).map (fun i => (t i).data.toList)
theorem lst_succ (t : Nat → ByteArray) (n : Nat) : lst t (n + 1) = lst t n ++ [(t n).data.toList] := by
  unfold lst
  rw [List.range_succ, List.map_append]
  rfl
theorem lst_length (t : Nat → ByteArray) (n : Nat) : (lst t n).length = n := by simp [lst]
theorem lst_get (t : Nat → ByteArray) (n i : Nat) (h : i < n) : (lst t n).drop i = (t i).data.toList :: (lst t n).drop (i + 1) := by
  rw [List.drop_eq_getElem_cons (by rw [lst_length]; exact h)]
  simp [lst]
theorem framesL_append (a : List (List UInt8)) (r : List UInt8) : framesL (a ++ [r]) = framesL a ++ frameL r := by
  induction a with
  | nil => simp [framesL]
  | cons x l ih => simp [framesL, ih]
theorem framesL_lst (t : Nat → ByteArray) (n : Nat) : framesL (lst t (n + 1)) = framesL (lst t n) ++ frameL (t n).data.toList := by rw [lst_succ, framesL_append]
theorem framesL_len (t : Nat → ByteArray) : ∀ n, (∀ i, i < n → (t i).size ≤ 1024) → (framesL (lst t n)).length ≤ 1032 * n
  | 0, _ => by simp [lst, framesL]
  | n + 1, h => by
    have h1 := framesL_len t n (fun i hi => h i (by omega))
    have h2 := h n (by omega)
    have h3 := len_eq (t n)
    rw [framesL_lst, List.length_append, frameL_length]
    omega
/-- Where the counting of whole frames stands. -/
structure WhSt (t : Nat → ByteArray) (n K i u : Nat) : Prop where
  le : u ≤ K
  i_le : i ≤ n
  eq : wholeL K (lst t n) = (i + (wholeL (K - u) ((lst t n).drop i)).1, u + (wholeL (K - u) ((lst t n).drop i)).2)
theorem WhSt.start (t : Nat → ByteArray) (n K : Nat) : WhSt t n K 0 0 := ⟨Nat.zero_le _, Nat.zero_le _, by simp⟩
theorem WhSt.next {t : Nat → ByteArray} {n K i u : Nat} (h : WhSt t n K i u) (hi : i < n) (hk : u + 8 + (t i).size ≤ K) : WhSt t n K (i + 1) (u + 8 + (t i).size) := by
  have hl := len_eq (t i)
  refine ⟨hk, hi, ?_⟩
  rw [h.eq, lst_get t n i hi]
  have e : K - u - (8 + (t i).data.toList.length) = K - (u + 8 + (t i).size) := by omega
  simp only [wholeL]
  rw [if_pos (by omega), e]
  refine Prod.ext ?_ ?_
  · show i + (_ + 1) = i + 1 + _
    omega
  · show u + (_ + (8 + (t i).data.toList.length)) = u + 8 + (t i).size + _
    omega
theorem WhSt.stop {t : Nat → ByteArray} {n K i u : Nat} (h : WhSt t n K i u) (hk : ¬ (i < n ∧ u + 8 + (t i).size ≤ K)) : wholeL K (lst t n) = (i, u) := by
  rw [h.eq]
  by_cases hi : i < n
  · rw [lst_get t n i hi]
    have hl := len_eq (t i)
    simp only [wholeL]
    rw [if_neg (by omega)]
    rfl
  · have : i = n := by have := h.i_le; omega
    rw [List.drop_of_length_le (by rw [lst_length]; omega)]
    rfl
theorem torn_long (ao : Option Addr) (n cap : Nat) (a : Int) (hn : n ≤ 9223372036854775807) (hl : 20 < n) (w : World) (ht : Tab w) :
    Calls Tryd.prog 5 #[.slice ao n cap, .int .u16 a] w (Ret (.bool true) w) := by
  have HA := Lib.hid (awake_any w ht)
  have d1 : decide (20 < (n : Int)) = true := decide_eq_true (by omega)
  have d2 := decide_eq_true hl
  clear hl hn ht
  go_enter Tryd.func5, Tryd.ntmps5
  go_wp2_with fail
  refine HA.out.mono ?_
  rintro e w1 ⟨rfl, h1⟩
  go_wp2
  go_ret
  exact ⟨rfl, h1⟩
theorem StrsAt.mono {w : World} {ao : Option Addr} {n k : Nat} {f g : Nat → Value} (h : StrsAt w ao n f) (hk : k ≤ n) (e : ∀ i, i < k → f i = g i) : StrsAt w ao k g := fun h0 => by
  obtain ⟨b, off, e1, hlt, hc⟩ := h (by omega)
  exact ⟨b, off, e1, hlt, fun i hi => by rw [hc i (by omega), e i hi]⟩
set_option maxHeartbeats 4000000 in
set_option maxRecDepth 100000 in
theorem torn_any (ao : Option Addr) (n cap : Nat) (t : Nat → ByteArray) (a : Nat) (ha : a < 65536) (hn : n ≤ 20) (hc : n ≤ cap) (hcap : cap ≤ 9223372036854775807) (htz : ∀ i, i < n → (t i).size ≤ 9223372036854775807) (w : World) (h : StrsAt w ao n (fun i => .string (t i))) (ht : Tab w) :
    Calls Tryd.prog 5 #[.slice ao n cap, .int .u16 (a : Nat)] w (Ret (.bool true) w) := by
  have HA := Lib.hid (fun W hW => awake_any W hW)
  have n2 : (n : Int) ≤ 20 := by omega
  have d1 : decide (20 < (n : Int)) = false := decide_eq_false (by omega)
  have d2 : decide (20 < n) = false := decide_eq_false (by omega)
  have HI := Lib.hid h
  have HT := Lib.hid ht
  have HTZ := Lib.hid htz
  have HNC := Lib.hid hc
  have HCAP := Lib.hid hcap
  have HAA := Lib.hid ha
  clear h ht htz hn hc hcap ha
  go_enter Tryd.func5, Tryd.ntmps5
  go_wp2_with fail
  go_loopw [5, 6] (fun sv iv wr => ∃ i : Nat, i ≤ n ∧ iv = .int .i64 i ∧ sv = .string ⟨(framesL (lst t i)).toArray⟩ ∧ (∀ j, j < i → (t j).size ≤ 1024) ∧ Below w.heap.size w wr) (fun _ iv _ => n - (intOf iv).toNat)
  case atStart => exact ⟨0, Nat.zero_le _, rfl, rfl, fun j hj => by omega, Below.refl _ _⟩
  case round =>
    obtain ⟨i, hi, rfl, rfl, hsm, hbel⟩ := hrel
    have hi2 : (i : Int) ≤ n := by omega
    have HB := Lib.hid hbel
    have HSM := Lib.hid hsm
    by_cases hlt : i < n
    · have hlt2 : (i : Int) < n := by omega
      obtain ⟨b, off, rfl, hb, hc⟩ := HI.out.below hbel (by omega)
      have c1 := hc i hlt
      simp only [] at c1
      have hz := HTZ.out i hlt
      have HLT := Lib.hid hlt
      by_cases hbig : 1024 < (t i).size
      · have d3 := decide_eq_true hbig
        have d4 : decide (1024 < ((t i).size : Int)) = true := decide_eq_true (by omega)
        have hz2 : ((t i).size : Int) ≤ 9223372036854775807 := by omega
        have HAW := Lib.hid (HA.out wr (HT.out.next hbel))
        clear hsm hbel hc hb hbig hlt hi hz
        generalize framesL (lst t i) = fl at *
        generalize t i = x at *
        go_wp2_with fail
        refine HAW.out.mono ?_
        rintro e w1 ⟨rfl, h1⟩
        have HB1 : Hid (Below w.heap.size w w1) := HB.out.trans (h1.mono HB.out.size)
        clear h1
        go_wp2
        go_ret
        exact ⟨rfl, HB1.out⟩
      · have d3 := decide_eq_false hbig
        have d4 : decide (1024 < ((t i).size : Int)) = false := decide_eq_false (by omega)
        have hz2 : ((t i).size : Int) ≤ 1024 := by omega
        have hlen := framesL_len t i hsm
        have hl := len_eq (t i)
        have HRP := Lib.hid (fun W => refput_any (t i).data.toList (by omega) W)
        have hadd : ∀ W, (Op.stringOp .add ⟨(framesL (lst t i)).toArray⟩ ⟨(frameL (t i).data.toList).toArray⟩).run Tryd.prog W = .ok (.string ⟨(framesL (lst t (i + 1))).toArray⟩) W := fun W => by
          have h := run_string_add_lists (P := Tryd.prog) W (framesL (lst t i)) (frameL (t i).data.toList) (by omega) (by rw [frameL_length]; omega)
          rw [← framesL_lst] at h
          exact h
        have HX : Hid ((⟨(t i).data.toList.toArray⟩ : ByteArray) = t i) := rfl
        rw [HX.out] at HRP
        have HSM2 : Hid (∀ j, j < i + 1 → (t j).size ≤ 1024) := fun j hj => by
          by_cases e : j = i
          · rw [e]; omega
          · exact HSM.out j (by omega)
        obtain ⟨F1, hF1⟩ : ∃ F1, F1 = framesL (lst t (i + 1)) := ⟨_, rfl⟩
        rw [← hF1] at hadd
        have HF1 := Lib.hid hF1
        clear hsm hbel hc hb hbig hlt hi hz hlen hl hF1
        unfold txt at HRP
        generalize framesL (lst t i) = fl at *
        generalize frameL (t i).data.toList = fr at *
        generalize t i = x at *
        go_wp2_with fail
        refine (HRP.out _).mono ?_
        rintro e w1 ⟨rfl, h1⟩
        have HB1 : Hid (Below w.heap.size w w1) := HB.out.trans (h1.mono HB.out.size)
        clear h1
        go_wp2_with fail
        go_roundw
        case rel => exact ⟨i + 1, by have := HLT.out; omega, by go_num, by rw [HF1.out], HSM2.out, HB1.out⟩
        case measure => have := HLT.out; simp [intOf]; omega
    · obtain rfl : i = n := by omega
      have hlen := framesL_len t i hsm
      have HTORN := Lib.hid (fun (K f : Nat) (hk : K ≤ (framesL (lst t i)).length) (hf : K ≤ f) => scan_torn (lst t i) K f (fun r hr => by
        obtain ⟨j, hj, rfl⟩ := List.mem_map.1 hr
        have := hsm j (List.mem_range.1 hj)
        rw [len_eq]
        exact this) hk hf)
      obtain ⟨S, hS⟩ : ∃ S, framesL (lst t i) = S := ⟨_, rfl⟩
      rw [hS] at hlen HTORN ⊢
      have zS : ByteArray.size ⟨S.toArray⟩ = S.length := rfl
      have hS2 : (S.length : Int) ≤ 20640 := by omega
      obtain ⟨K, hK⟩ : ∃ K, a % (S.length + 1) = K := ⟨_, rfl⟩
      have hKS : K ≤ S.length := by have := Nat.mod_lt a (show 0 < S.length + 1 by omega); omega
      have hKS2 : (K : Int) ≤ S.length := by omega
      have hrem : (a : Int) % ((S.length : Int) + 1) = (K : Int) := by rw [← hK]; push_cast; rfl
      have hnz : (((S.length : Int) + 1) == 0) = false := by rw [beq_eq_false_iff_ne]; omega
      have ha2 : (a : Int) ≤ 65535 := by have := HAA.out; omega
      clear hsm hlt hi hi2 hbel hS hlen hK
      go_wp2_with fail
      rw [hrem]
      obtain ⟨wq, hwq⟩ : ∃ x, x = wr := ⟨_, rfl⟩
      rw [← hwq] at HB ⊢
      clear hwq hrem hnz
      go_loopw [8, 9] (fun jv uv wr => wq = wr ∧ ∃ j u : Nat, jv = .int .i64 j ∧ uv = .int .i64 u ∧ WhSt t i K j u) (fun jv _ _ => i - (intOf jv).toNat)
      case atStart => exact ⟨rfl, 0, 0, rfl, rfl, WhSt.start _ _ _⟩
      case round =>
        obtain ⟨rfl, j, u, rfl, rfl, hst⟩ := hrel
        have hj := hst.i_le
        have hu := hst.le
        have hj2 : (j : Int) ≤ i := by omega
        have hu2 : (u : Int) ≤ 20640 := by omega
        have hbq := HB.out
        by_cases hlt : j < i
        · have hlt2 : (j : Int) < i := by omega
          obtain ⟨b, off, rfl, hb, hc⟩ := HI.out.below HB.out (by omega)
          have c1 := hc j hlt
          simp only [] at c1
          have hz := HSM.out j hlt
          have hz2 : ((t j).size : Int) ≤ 1024 := by omega
          by_cases hfit : u + 8 + (t j).size ≤ K
          · have HN := Lib.hid (hst.next hlt hfit)
            have d5 : decide ((u : Int) + 8 + ((t j).size : Int) ≤ (K : Int)) = true := decide_eq_true (by omega)
            have HLT := Lib.hid hlt
            have e8 : ((u + 8 + (t j).size : Nat) : Int) = (u : Int) + 8 + ((t j).size : Int) := by omega
            have HE8 := Lib.hid e8
            clear hst hc hb hz hfit hlt hj hu hbq e8
            obtain ⟨x, hx⟩ : ∃ x, x = t j := ⟨_, rfl⟩
            rw [← hx] at HN c1 hz2 d5 HE8
            clear hx
            go_wp2_with fail
            go_roundw
            case rel => exact ⟨by first | trivial | rfl, j + 1, _, by go_num, by rw [HE8.out], HN.out⟩
            case measure => have := HLT.out; simp [intOf]; omega
          · have d5 : decide ((u : Int) + 8 + ((t j).size : Int) ≤ (K : Int)) = false := decide_eq_false (by omega)
            have hstop : ¬ (j < i ∧ u + 8 + (t j).size ≤ K) := fun h => hfit h.2
            have HW := Lib.hid (hst.stop hstop)
            have hij := hst.i_le
            have huK := hst.le
            have hext : ((⟨S.toArray⟩ : ByteArray).extract 0 K).data.toList = S.take K := by
              rw [ext_toList]
              rfl
            have hxs : ((⟨S.toArray⟩ : ByteArray).extract 0 K).size = K := by
              rw [← len_eq, hext, List.length_take]; omega
            have hscan := HTORN.out K ((⟨S.toArray⟩ : ByteArray).extract 0 K).size hKS (by rw [hxs]; exact Nat.le_refl _)
            rw [HW.out, ← hext] at hscan
            have HSC := Lib.hid (fun W hW => scan_any ((⟨S.toArray⟩ : ByteArray).extract 0 K) (by rw [hxs]; omega) W hW)
            rw [hscan] at HSC
            have htl : ((lst t i).take j).length = j := by rw [List.length_take, lst_length]; omega
            have HTL := Lib.hid htl
            have HSAME := Lib.hid (fun ao' bo cap1 cap2 W h1 h2 => same_any j cap1 cap2 ao' bo (fun q => ⟨(((lst t i).take j).getD q []).toArray⟩) (by omega) W h1 h2)
            have HTX : Hid (∀ q, q < j → (fun i => Value.string (t i)) q = (fun q => Value.string ⟨(((lst t i).take j).getD q []).toArray⟩) q) := fun q hq => by
              have hq2 : q < ((lst t i).take j).length := by rw [htl]; exact hq
              have e : ((lst t i).take j).getD q [] = (t q).data.toList := by
                rw [List.getD_eq_getElem?_getD, List.getElem?_eq_getElem hq2, List.getElem_take]
                simp [lst]
              simp only [e]
            have hij2 : (j : Int) ≤ cap := by have := HNC.out; omega
            have hij3 : (j : Int) ≤ i := by omega
            have hcap2 : (cap : Int) ≤ 9223372036854775807 := by have := HCAP.out; omega
            have HIJ := Lib.hid hij
            have hjc : j ≤ cap := by have := HNC.out; omega
            by_cases huk : u < K
            · rw [if_pos huk] at HSC
              have dk : decide ((u : Int) < (K : Int)) = true := decide_eq_true (by omega)
              have dk2 := decide_eq_true huk
              have HSC2 : Hid (∀ W, Tab W → Calls Tryd.prog 12 #[.string ((⟨S.toArray⟩ : ByteArray).extract 0 K)] W (Scans W ((lst t i).take j, u, 4))) := HSC.out
              have HB0 := Lib.hid hbq
              clear hst hstop hext hxs hscan htl huk hij HSC huK HTORN hbq hc hb hz hfit hlt hj hu
              go_wp2_with fail
              refine (HSC2.out _ (HT.out.next HB0.out)).mono ?_
              rintro e w1 ⟨h1, ao1, cap1, rfl, st1⟩
              have hsl := HTL.out
              simp only [] at st1 hsl ⊢
              rw [hsl] at st1 ⊢
              have B1 : Hid (Below w.heap.size w w1) := HB0.out.trans (h1.mono HB0.out.size)
              have ST1 := Lib.hid st1
              clear h1 st1 HB0 HSC2
              go_wp2_with fail
              refine (HA.out _ (HT.out.next B1.out)).mono ?_
              rintro e w2 ⟨rfl, h2⟩
              have B2 : Hid (Below w.heap.size w w2) := B1.out.trans (h2.mono B1.out.size)
              have ST2 := Lib.hid (ST1.out.below h2)
              have STB : Hid (StrsAt w2 (some ⟨b, off, none⟩) j (fun q => Value.string ⟨(((lst t i).take j).getD q []).toArray⟩)) := (HI.out.below B2.out).mono HIJ.out HTX.out
              clear h2 B1 ST1 hsl
              go_wp2_with fail
              refine (HSAME.out _ _ _ _ _ ST2.out STB.out).mono ?_
              rintro e w3 ⟨rfl, h3⟩
              have B3 : Hid (Below w.heap.size w w3) := B2.out.trans (h3.mono B2.out.size)
              clear h3 B2
              go_wp2
              go_ret
              exact ⟨rfl, B3.out⟩
            · rw [if_neg huk] at HSC
              have dk : decide ((u : Int) < (K : Int)) = false := decide_eq_false (by omega)
              have dk2 := decide_eq_false huk
              have HSC2 : Hid (∀ W, Tab W → Calls Tryd.prog 12 #[.string ((⟨S.toArray⟩ : ByteArray).extract 0 K)] W (Scans W ((lst t i).take j, u, 0))) := HSC.out
              have HB0 := Lib.hid hbq
              clear hst hstop hext hxs hscan htl huk hij HSC huK HTORN hbq hc hb hz hfit hlt hj hu
              go_wp2_with fail
              refine (HSC2.out _ (HT.out.next HB0.out)).mono ?_
              rintro e w1 ⟨h1, ao1, cap1, rfl, st1⟩
              have hsl := HTL.out
              simp only [] at st1 hsl ⊢
              rw [hsl] at st1 ⊢
              have B1 : Hid (Below w.heap.size w w1) := HB0.out.trans (h1.mono HB0.out.size)
              have ST1 := Lib.hid st1
              clear h1 st1 HB0 HSC2
              go_wp2_with fail
              refine (HA.out _ (HT.out.next B1.out)).mono ?_
              rintro e w2 ⟨rfl, h2⟩
              have B2 : Hid (Below w.heap.size w w2) := B1.out.trans (h2.mono B1.out.size)
              have ST2 := Lib.hid (ST1.out.below h2)
              have STB : Hid (StrsAt w2 (some ⟨b, off, none⟩) j (fun q => Value.string ⟨(((lst t i).take j).getD q []).toArray⟩)) := (HI.out.below B2.out).mono HIJ.out HTX.out
              clear h2 B1 ST1 hsl
              go_wp2_with fail
              refine (HSAME.out _ _ _ _ _ ST2.out STB.out).mono ?_
              rintro e w3 ⟨rfl, h3⟩
              have B3 : Hid (Below w.heap.size w w3) := B2.out.trans (h3.mono B2.out.size)
              clear h3 B2
              go_wp2
              go_ret
              exact ⟨rfl, B3.out⟩
        · have hji : j = i := by omega
          have hstop : ¬ (j < i ∧ u + 8 + (t j).size ≤ K) := fun h => hlt h.1
          have dlt : decide ((j : Int) < (i : Int)) = false := decide_eq_false (by omega)
          have dlt2 := decide_eq_false hlt
          have HW := Lib.hid (hst.stop hstop)
          have hij := hst.i_le
          have huK := hst.le
          have hext : ((⟨S.toArray⟩ : ByteArray).extract 0 K).data.toList = S.take K := by
            rw [ext_toList]
            rfl
          have hxs : ((⟨S.toArray⟩ : ByteArray).extract 0 K).size = K := by
            rw [← len_eq, hext, List.length_take]; omega
          have hscan := HTORN.out K ((⟨S.toArray⟩ : ByteArray).extract 0 K).size hKS (by rw [hxs]; exact Nat.le_refl _)
          rw [HW.out, ← hext] at hscan
          have HSC := Lib.hid (fun W hW => scan_any ((⟨S.toArray⟩ : ByteArray).extract 0 K) (by rw [hxs]; omega) W hW)
          rw [hscan] at HSC
          have htl : ((lst t i).take j).length = j := by rw [List.length_take, lst_length]; omega
          have HTL := Lib.hid htl
          have HSAME := Lib.hid (fun ao' bo cap1 cap2 W h1 h2 => same_any j cap1 cap2 ao' bo (fun q => ⟨(((lst t i).take j).getD q []).toArray⟩) (by omega) W h1 h2)
          have HTX : Hid (∀ q, q < j → (fun i => Value.string (t i)) q = (fun q => Value.string ⟨(((lst t i).take j).getD q []).toArray⟩) q) := fun q hq => by
            have hq2 : q < ((lst t i).take j).length := by rw [htl]; exact hq
            have e : ((lst t i).take j).getD q [] = (t q).data.toList := by
              rw [List.getD_eq_getElem?_getD, List.getElem?_eq_getElem hq2, List.getElem_take]
              simp [lst]
            simp only [e]
          have hij2 : (j : Int) ≤ cap := by have := HNC.out; omega
          have hij3 : (j : Int) ≤ i := by omega
          have hcap2 : (cap : Int) ≤ 9223372036854775807 := by have := HCAP.out; omega
          have HIJ := Lib.hid hij
          have hjc : j ≤ cap := by have := HNC.out; omega
          by_cases huk : u < K
          · rw [if_pos huk] at HSC
            have dk : decide ((u : Int) < (K : Int)) = true := decide_eq_true (by omega)
            have dk2 := decide_eq_true huk
            have HSC2 : Hid (∀ W, Tab W → Calls Tryd.prog 12 #[.string ((⟨S.toArray⟩ : ByteArray).extract 0 K)] W (Scans W ((lst t i).take j, u, 4))) := HSC.out
            have HB0 := Lib.hid hbq
            clear hst hstop hext hxs hscan htl huk hij HSC huK HTORN hbq hlt hj hu hji
            go_wp2_with fail
            refine (HSC2.out _ (HT.out.next HB0.out)).mono ?_
            rintro e w1 ⟨h1, ao1, cap1, rfl, st1⟩
            have hsl := HTL.out
            simp only [] at st1 hsl ⊢
            rw [hsl] at st1 ⊢
            have B1 : Hid (Below w.heap.size w w1) := HB0.out.trans (h1.mono HB0.out.size)
            have ST1 := Lib.hid st1
            clear h1 st1 HB0 HSC2
            go_wp2_with fail
            refine (HA.out _ (HT.out.next B1.out)).mono ?_
            rintro e w2 ⟨rfl, h2⟩
            have B2 : Hid (Below w.heap.size w w2) := B1.out.trans (h2.mono B1.out.size)
            have ST2 := Lib.hid (ST1.out.below h2)
            have STB : Hid (StrsAt w2 ao j (fun q => Value.string ⟨(((lst t i).take j).getD q []).toArray⟩)) := (HI.out.below B2.out).mono HIJ.out HTX.out
            clear h2 B1 ST1 hsl
            go_wp2_with fail
            refine (HSAME.out _ _ _ _ _ ST2.out STB.out).mono ?_
            rintro e w3 ⟨rfl, h3⟩
            have B3 : Hid (Below w.heap.size w w3) := B2.out.trans (h3.mono B2.out.size)
            clear h3 B2
            go_wp2
            go_ret
            exact ⟨rfl, B3.out⟩
          · rw [if_neg huk] at HSC
            have dk : decide ((u : Int) < (K : Int)) = false := decide_eq_false (by omega)
            have dk2 := decide_eq_false huk
            have HSC2 : Hid (∀ W, Tab W → Calls Tryd.prog 12 #[.string ((⟨S.toArray⟩ : ByteArray).extract 0 K)] W (Scans W ((lst t i).take j, u, 0))) := HSC.out
            have HB0 := Lib.hid hbq
            clear hst hstop hext hxs hscan htl huk hij HSC huK HTORN hbq hlt hj hu hji
            go_wp2_with fail
            refine (HSC2.out _ (HT.out.next HB0.out)).mono ?_
            rintro e w1 ⟨h1, ao1, cap1, rfl, st1⟩
            have hsl := HTL.out
            simp only [] at st1 hsl ⊢
            rw [hsl] at st1 ⊢
            have B1 : Hid (Below w.heap.size w w1) := HB0.out.trans (h1.mono HB0.out.size)
            have ST1 := Lib.hid st1
            clear h1 st1 HB0 HSC2
            go_wp2_with fail
            refine (HA.out _ (HT.out.next B1.out)).mono ?_
            rintro e w2 ⟨rfl, h2⟩
            have B2 : Hid (Below w.heap.size w w2) := B1.out.trans (h2.mono B1.out.size)
            have ST2 := Lib.hid (ST1.out.below h2)
            have STB : Hid (StrsAt w2 ao j (fun q => Value.string ⟨(((lst t i).take j).getD q []).toArray⟩)) := (HI.out.below B2.out).mono HIJ.out HTX.out
            clear h2 B1 ST1 hsl
            go_wp2_with fail
            refine (HSAME.out _ _ _ _ _ ST2.out STB.out).mono ?_
            rintro e w3 ⟨rfl, h3⟩
            have B3 : Hid (Below w.heap.size w w3) := B2.out.trans (h3.mono B2.out.size)
            clear h3 B2
            go_wp2
            go_ret
            exact ⟨rfl, B3.out⟩
end Go.Proofs.YtmepaeppkeaifaaDoor
