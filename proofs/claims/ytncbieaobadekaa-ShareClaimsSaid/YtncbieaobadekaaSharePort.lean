/- Package share: portions, for few weights. -/
import Derived.Test.YtncbieaobadekaaShareOrder
import Derived.Test.YtncbieaobadekaaShareQuota
namespace Go.Proofs.Ytncbieaobadekaa
open Go.ChangeShapes Go.WideShapes Go.ChangeAt Go.RowKit
def sN (f : Nat → Nat) : Nat → Nat | 0 => 0 | n + 1 => sN f n + f n
theorem sN_mono (f : Nat → Nat) (k : Nat) : ∀ d, sN f k ≤ sN f (k + d)
  | 0 => Nat.le_refl _
  | d + 1 => Nat.le_trans (sN_mono f k d) (Nat.le_add_right _ _)
theorem sN_le (f : Nat → Nat) {k n : Nat} (h : k ≤ n) : sN f k ≤ sN f n := by
  obtain ⟨d, rfl⟩ : ∃ d, n = k + d := ⟨n - k, by omega⟩
  exact sN_mono f k d
theorem sN_one (f : Nat → Nat) {i n : Nat} (h : i < n) : f i ≤ sN f n := Nat.le_trans (Nat.le_add_left _ _) (sN_le f (show i + 1 ≤ n from h))
def qN (a c : Nat) (z : Nat → Nat) (i : Nat) : Nat := a * z i / c
def rN (a c : Nat) (z : Nat → Nat) (i : Nat) : Nat := a * z i % c
theorem sN_parts (a c : Nat) (z : Nat → Nat) : ∀ k, c * sN (qN a c z) k + sN (rN a c z) k = a * sN z k
  | 0 => by simp [sN]
  | k + 1 => by
    have h := sN_parts a c z k
    have h2 := Nat.div_add_mod (a * z k) c
    simp only [sN, Nat.mul_add]
    unfold qN rN at *
    omega
theorem sN_rest (a c : Nat) (c0 : 0 < c) (z : Nat → Nat) : ∀ k, 0 < k → sN (rN a c z) k < k * c
  | 0, h => by omega
  | k + 1, _ => by
    have h2 : rN a c z k < c := Nat.mod_lt _ c0
    simp only [sN]
    rw [Nat.add_mul, Nat.one_mul]
    rcases Nat.eq_zero_or_pos k with rfl | hk
    · simp [sN]; omega
    · have := sN_rest a c c0 z k hk
      omega
/-- The parts rounded down come to no more than the whole, and what is left is less than there are weights. -/
theorem sN_left (a n : Nat) (z : Nat → Nat) (c0 : 0 < sN z n) (k : Nat) (hk : k ≤ n) : sN (qN a (sN z n) z) k ≤ a := by
  have h := sN_parts a (sN z n) z k
  have h2 : a * sN z k ≤ a * sN z n := Nat.mul_le_mul_left _ (sN_le z hk)
  have h3 : sN (qN a (sN z n) z) k * sN z n ≤ a * sN z n := by rw [Nat.mul_comm (sN _ k)]; omega
  exact Nat.le_of_mul_le_mul_right h3 c0
theorem sN_few (a n : Nat) (z : Nat → Nat) (c0 : 0 < sN z n) : a - sN (qN a (sN z n) z) n < n := by
  have hn : 0 < n := by
    rcases Nat.eq_zero_or_pos n with rfl | h
    · simp [sN] at c0
    · exact h
  have h1 := sN_left a n z c0 n (Nat.le_refl _)
  have h := sN_parts a (sN z n) z n
  have h2 := sN_rest a (sN z n) c0 z n hn
  obtain ⟨l, hl⟩ : ∃ l, l = a - sN (qN a (sN z n) z) n := ⟨_, rfl⟩
  rw [← hl]
  have ha : a = sN (qN a (sN z n) z) n + l := by omega
  have h3 : l * sN z n < n * sN z n := by
    have : a * sN z n = (sN (qN a (sN z n) z) n + l) * sN z n := by rw [← ha]
    rw [Nat.add_mul, Nat.mul_comm (sN (qN a (sN z n) z) n)] at this
    omega
  exact Nat.lt_of_mul_lt_mul_right h3
/-- One more, for those that come first. -/
def upN (f : Nat → Int) : Nat → Nat → Int | 0, _ => 0 | k + 1, i => if f k = (i : Int) then 1 else upN f k i
theorem upN_zero (f : Nat → Int) (i : Nat) : ∀ k, (∀ j, j < k → f j ≠ (i : Int)) → upN f k i = 0
  | 0, _ => rfl
  | k + 1, h => by
    rw [upN, if_neg (h k (by omega))]
    exact upN_zero f i k (fun j hj => h j (by omega))
theorem upN_bound (f : Nat → Int) (i : Nat) : ∀ k, 0 ≤ upN f k i ∧ upN f k i ≤ 1
  | 0 => ⟨Int.le_refl _, by rw [upN]; decide⟩
  | k + 1 => by
    rw [upN]
    split
    · exact ⟨by decide, by decide⟩
    · exact upN_bound f i k
theorem put_next (q : Nat → Nat) (k : Nat) (i : Nat) : put (fun i => if i < k then (q i : Int) else 0) k (q k : Int) i = if i < k + 1 then (q i : Int) else 0 := by
  unfold put
  by_cases hik : i = k
  · rw [if_pos hik, if_pos (by omega), hik]
  · rw [if_neg hik]
    dsimp only
    by_cases hlk : i < k
    · rw [if_pos hlk, if_pos (by omega)]
    · rw [if_neg hlk, if_neg (by omega)]
theorem lt_distinct {z : Nat → Int} {f : Nat → Int} {n i j : Nat} (h : SortedOn (ltK (restK z)) f 0 n) (hij : i < j) (hj : j < n) : f i ≠ f j := fun e => by
  have := h i j (Nat.zero_le _) hij hj
  rw [e] at this
  exact ltK_asymm (rest_swo z) this this
/-- What portions answers. -/
def Ports (a n : Nat) (z : Nat → Nat) (w : World) (e : Ending) (w' : World) : Prop :=
  Below w.heap.size w w' ∧ ∃ (g : Nat) (f' : Nat → Int), w.heap.size ≤ g ∧ e = .returned (.slice (some ⟨g, 0, none⟩) n n) ∧ SortedOn (ltK (restK (fun i => (rN a (sN z n) z i : Nat)))) f' 0 n ∧ Same 0 n (fun i => (i : Int)) f' ∧
    RowI w' g n (fun i => (qN a (sN z n) z i : Nat) + upN f' (a - sN (qN a (sN z n) z) n) i)
theorem portions_few (a n cap : Nat) (z : Nat → Nat) (ao : Option Addr) (hn : n ≤ 60) (ha : a ≤ 9223372036854775807) (c0 : 0 < sN z n) (hc : sN z n ≤ 9223372036854775807) (w : World) (h : IntsAt w ao n (fun i => (z i : Nat))) :
    Calls Try.prog 49 #[.int .i64 a, .slice ao n cap, .int .i64 (sN z n : Nat)] w (Ports a n z w) := by
  have HF := Lib.hid (sN_few a n z c0)
  have HL := Lib.hid (sN_left a n z c0)
  have HQ : Hid (∀ i, i < n → ∀ w : World, Calls Try.prog 75 #[.int .i64 a, .int .i64 (z i : Nat), .int .i64 (sN z n : Nat)] w (Ret (.tuple #[.int .i64 (qN a (sN z n) z i : Nat), .int .i64 (rN a (sN z n) z i : Nat), .int .i64 0]) w)) :=
    fun i hi w => quota_ok a (z i) (sN z n) ha hc (sN_one z hi) c0 w
  have HA := Lib.hid ha
  unfold Ports
  obtain ⟨q, hq⟩ : ∃ q, q = qN a (sN z n) z := ⟨_, rfl⟩
  obtain ⟨r, hr⟩ : ∃ r, r = rN a (sN z n) z := ⟨_, rfl⟩
  obtain ⟨c, hcc⟩ : ∃ c, c = sN z n := ⟨_, rfl⟩
  rw [← hq] at HF HL HQ
  rw [← hr] at HQ
  rw [← hq, ← hr, ← hcc]
  rw [← hcc] at HQ
  have H := Lib.hid h
  have HN := Lib.hid hn
  have n2 : (n : Int) ≤ 60 := by omega
  have mk := makeI n (by omega)
  clear h hn hq hr hcc c0 hc ha
  go_enter Try.func49, Try.ntmps49
  go_wp2_with fail
  clear mk
  go_loopw [9, 23] (fun lv iv wr => ∃ k : Nat, k ≤ n ∧ lv = .int .i64 (a - sN q k : Nat) ∧ iv = .int .i64 (k : Nat) ∧ Below w.heap.size w wr ∧ RowI wr w.heap.size n (fun i => if i < k then (q i : Int) else 0) ∧ RowI wr (w.heap.size + 1) n (fun i => if i < k then (r i : Int) else 0)) (fun _ iv _ => n - (intOf iv).toNat)
  case atStart =>
    refine ⟨0, Nat.zero_le _, rfl, rfl, by go_grown, ?_, ?_⟩
    · exact ((RowI.made w n).gr ((Below.refl _ _).alloc (Nat.le_refl _) _)).congr fun i _ => by rw [if_neg (by omega)]
    · have := RowI.made (w.alloc (Obj.cells (madeCells #[Value.int IntKind.i64 0] n) 2)) n
      rw [show (w.alloc (Obj.cells (madeCells #[Value.int IntKind.i64 0] n) 2)).heap.size = w.heap.size + 1 from by simp] at this
      exact this.congr fun i _ => by rw [if_neg (by omega)]
  case round =>
    obtain ⟨k, hk, rfl, rfl, hbel, hrow, hrow2⟩ := hrel
    have hk2 : (k : Int) ≤ n := by omega
    have HBel := Lib.hid hbel
    by_cases hlt : k < n
    · obtain ⟨b, off, rfl, hb, hc⟩ := H.out (by omega)
      have c1 := (HBel.out.cell (by exact hb)).trans (hc k hlt)
      have hql := HL.out (k + 1) hlt
      have hqe : sN q (k + 1) = sN q k + q k := rfl
      obtain ⟨l, hl⟩ : ∃ l, l = a - sN q k := ⟨_, rfl⟩
      have hl2 : a - sN q (k + 1) = l - q k := by omega
      have hl3 : q k ≤ l := by omega
      have hl4 : (l : Int) ≤ 9223372036854775807 := by have := HA.out; omega
      have hl5 : (q k : Int) ≤ l := by omega
      rw [← hl]
      have HQK := Lib.hid (HQ.out k hlt)
      have HL2 := Lib.hid hl2
      have c3 := hrow.cell k hlt
      have e3 := hrow.free k
      have c4 := hrow2.cell k hlt
      have e4 := hrow2.free k
      clear hc hql hqe hl hl2
      have HW := Lib.hid hrow
      have HW2 := Lib.hid hrow2
      clear hrow hrow2 hbel
      obtain ⟨x, hx⟩ : ∃ x, q k = x := ⟨_, rfl⟩
      obtain ⟨y, hy⟩ : ∃ y, r k = y := ⟨_, rfl⟩
      rw [hx, hy] at HQK
      rw [hx] at hl3 hl5 HL2
      have HX := Lib.hid hx
      have HY := Lib.hid hy
      clear hx hy
      go_wp2_with fail
      refine (HQK.out _).mono ?_
      rintro e w1 ⟨rfl, h1⟩
      have H1 := Lib.hid h1
      clear h1 c3 c4 e3 e4 c1
      have c3 := (HW.out.gr H1.out).cell k hlt
      have e3 := (HW.out.gr H1.out).free k
      have c4 := (HW2.out.gr H1.out).cell k hlt
      have e4 := (HW2.out.gr H1.out).free k
      go_wp2_with fail
      go_roundw
      case rel =>
        have s1 := ((HW.out.gr H1.out).store k (x : Int)).other (b := w.heap.size + 1) (o := k) (u := .int .i64 (y : Nat)) (by omega)
        have s2 := ((HW2.out.gr H1.out).other (b := w.heap.size) (o := k) (u := .int .i64 (x : Nat)) (by omega)).store k (y : Int)
        refine ⟨k + 1, hlt, by rw [HL2.out]; congr 1; omega, by go_num, ((HBel.out.trans (H1.out.mono HBel.out.size)).setCell (Nat.le_refl _) _).setCell (Nat.le_succ _) _, s1.congr fun i _ => ?_, s2.congr fun i _ => ?_⟩
        · rw [← HX.out]; exact put_next q k i
        · rw [← HY.out]; exact put_next r k i
      case measure => simp [intOf]; omega
    · obtain rfl : k = n := by omega
      have HW : Hid (RowI wr w.heap.size k (fun i => (q i : Int))) := hrow.congr fun i hi => by rw [if_pos hi]
      have HW2 : Hid (RowI wr (w.heap.size + 1) k (fun i => (r i : Int))) := hrow2.congr fun i hi => by rw [if_pos hi]
      have hB := byRest_few (fun i => (r i : Int)) k k (w.heap.size + 1) 0 HN.out wr (lt_of_block HW2.out) (fun i hi => by rw [Nat.zero_add]; exact HW2.out.cell i hi)
      have HB := Lib.hid hB
      have HSZ := Lib.hid (lt_of_block HW2.out)
      have HQS : Hid (∀ i, i < k → q i ≤ sN q k) := fun i hi => sN_one q hi
      have HLK := Lib.hid (HL.out k (Nat.le_refl _))
      obtain ⟨s, hs⟩ : ∃ s, s = sN q k := ⟨_, rfl⟩
      rw [← hs] at HQS HLK HF
      rw [← hs]
      obtain ⟨l, hl⟩ : ∃ l, l = a - s := ⟨_, rfl⟩
      have HLL := Lib.hid hl
      have HSE := Lib.hid hs
      rw [← hl] at HF
      rw [← hl]
      clear hB hrow hrow2 hbel hlt hs hl
      go_wp2_with fail
      refine HB.out.mono ?_
      rintro e w1 ⟨h1, g, f', hg, rfl, hf1, hf2, hf3⟩
      have H1 := Lib.hid h1
      have HG := Lib.hid hg
      have HF1 := Lib.hid hf1
      have HF2 := Lib.hid hf2
      have HF3 := Lib.hid hf3
      clear h1 hg hf1 hf2 hf3
      have hl2 : (l : Int) ≤ 60 := by have := HF.out; omega
      go_wp2_with fail
      go_loopw [52] (fun iv wr' => ∃ j : Nat, j ≤ l ∧ iv = .int .i64 (j : Nat) ∧ Below w.heap.size w wr' ∧ RowI wr' w.heap.size k (fun i => (q i : Int) + upN f' j i) ∧ RowF wr' g k f') (fun iv _ => l - (intOf iv).toNat)
      case atStart => exact ⟨0, Nat.zero_le _, rfl, HBel.out.trans (H1.out.mono HBel.out.size), (HW.out.gr H1.out).congr fun i _ => by rw [upN, Int.add_zero], HF1.out⟩
      case round =>
        clear HW HW2
        obtain ⟨j, hj, rfl, hbel2, hro, hor⟩ := hrel
        have hj2 : (j : Int) ≤ l := by omega
        have HBel2 := Lib.hid hbel2
        have HRO := Lib.hid hro
        have HOR := Lib.hid hor
        clear hbel2
        by_cases hlj : j < l
        · have hjn : j < k := by have := HF.out; omega
          have hjn2 : (j : Int) < k := by omega
          obtain ⟨o, _, ho, heo⟩ := HF3.out.from_ j (Nat.zero_le _) hjn
          have hz : upN f' j o = 0 := upN_zero f' o j fun i hi he => lt_distinct HF2.out hi hjn (by rw [he]; exact heo.symm)
          have ho2 : (o : Int) < k := by omega
          have c1 := hor.cell j hjn
          rw [heo] at c1
          have c2 := hro.cell o ho
          have e2 := hro.free o
          rw [hz, Int.add_zero] at c2
          have hqo := HQS.out o ho
          have hq2 : (q o : Int) + 1 ≤ 9223372036854775807 := by have := HA.out; have := HLK.out; have := HLL.out; omega
          have HEO := Lib.hid heo
          have HZZ := Lib.hid hz
          obtain ⟨x, hx⟩ : ∃ x, q o = x := ⟨_, rfl⟩
          rw [hx] at c2 hq2
          have HX := Lib.hid hx
          clear hro hor heo hz hqo hx
          go_wp2_with fail
          go_roundw
          case rel =>
            refine ⟨j + 1, hlj, by go_num, HBel2.out.setCell (Nat.le_refl _) _, (HRO.out.store o ((x : Int) + 1)).congr fun i _ => ?_, HOR.out.other (by have := HG.out; have := HSZ.out; omega)⟩
            unfold put
            rw [upN, HEO.out]
            by_cases hio : i = o
            · rw [if_pos hio, if_pos (by rw [hio]), hio, HX.out]
            · rw [if_neg hio, if_neg (by omega)]
          case measure => simp [intOf]; omega
        · obtain rfl : j = l := by omega
          clear hro hor hlj
          go_wp2_with fail
          go_ret
          exact ⟨HBel2.out, w.heap.size, f', Nat.le_refl _, rfl, HF2.out, HF3.out, by rw [← HSE.out, ← HLL.out]; exact HRO.out⟩
end Go.Proofs.Ytncbieaobadekaa
