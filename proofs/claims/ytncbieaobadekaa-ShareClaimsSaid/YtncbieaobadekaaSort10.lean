/- The stable sort of Go's package slices: up to 60 numbers. -/
import Derived.Test.YtncbieaobadekaaSort9
namespace Go.Proofs.Ytncbieaobadekaa
open Go.ChangeShapes Go.WideShapes Go.ChangeAt Go.RowKit
/-- After the first blocks, up to a: sorted in themselves, each number out of its own block. -/
structure Blocks (L : Int → Int → Prop) (f fi : Nat → Int) (n a : Nat) : Prop where
  rest : ∀ t, a ≤ t → fi t = f t
  own : ∀ t, t < n → ∃ u, u < n ∧ u / 20 = t / 20 ∧ fi t = f u
  sorted : ∀ s t, s < t → t < a → s / 20 = t / 20 → L (fi s) (fi t)
  same : Same 0 n f fi
theorem blocks_next {L : Int → Int → Prop} {f fi fj : Nat → Int} {n a b : Nat} (hb : b ≤ n) (ha : a ≤ b) (ha2 : a % 20 = 0) (hb2 : b ≤ a + 20) (h : Blocks L f fi n a) (hs : SortedOn L fj a b) (he : Same a b fi fj) : Blocks L f fj n b := by
  refine ⟨fun t ht => ?_, fun t ht => ?_, fun s t h1 h2 h3 => ?_, h.same.trans (he.wide (Nat.zero_le _) hb)⟩
  · rw [he.out t (by omega)]; exact h.rest t (by omega)
  · by_cases c : a ≤ t ∧ t < b
    · obtain ⟨j, j1, j2, e⟩ := he.from_ t c.1 c.2
      exact ⟨j, by omega, by omega, by rw [e]; exact h.rest j j1⟩
    · rw [he.out t c]; exact h.own t ht
  · by_cases c : a ≤ s
    · exact hs s t c h1 h2
    · rw [he.out s (by omega), he.out t (by omega)]
      exact h.sorted s t h1 (by omega) h3
set_option maxRecDepth 100000 in
set_option maxHeartbeats 4000000 in
theorem stable_any {V : Int → Prop} {cf : Int → Int → Int} {Inv : World → Prop} {k : Int → Int → Prop} (gf : Nat) (caps : Array Value) (f : Nat → Int) (g n cap : Nat) (HC : CmpOk gf caps g V cf Inv) (hk : SWO k) (hcf : ∀ x y, V x → V y → (cf x y < 0 ↔ k x y))
    (hn : n ≤ 60) (hV : ∀ i, i < n → V (f i)) (hinc : ∀ i j, i < j → j < n → f i < f j) (w : World) (hI : Inv w) (h : RowF w g n f) :
    Calls Try.prog 110 #[.slice (some ⟨g, 0, none⟩) n cap, .int .i64 n, .func (.func gf) #[] caps] w (Sorts (ltK k) g n f 0 n w) := by
  have n1 : (n : Int) ≤ 60 := by omega
  have HIS : Hid (∀ (a b : Nat) (fi : Nat → Int) (wr : World), a ≤ b → b ≤ n → a % 20 = 0 → b ≤ a + 20 → Gr g w wr → RowF wr g n fi → Blocks (ltK k) f fi n a → Calls Try.prog 98 #[.slice (some ⟨g, 0, none⟩) n cap, .int .i64 a, .int .i64 b, .func (.func gf) #[] caps] wr (fun e w' => e = .returned (.tuple #[]) ∧ ∃ fj, RowF w' g n fj ∧ Gr g w w' ∧ Blocks (ltK k) f fj n b)) := fun a b fi wr h1 h2 h3 h4 hg hr hB => by
    refine (insort_any gf caps fi g n cap a b HC hk hcf h1 h2 (by omega) (fun i i1 i2 => by rw [hB.rest i i1]; exact hV i (by omega)) (fun i j i1 i2 i3 => by rw [hB.rest i i1, hB.rest j (by omega)]; exact hinc i j i2 (by omega)) wr (HC.inv _ _ hI hg) hr).mono ?_
    rintro e w' ⟨rfl, fj, hr', hg', hs, he⟩
    exact ⟨rfl, fj, hr', gr_trans hg hg', blocks_next h2 h1 h3 h4 hB hs he⟩
  have HSM : Hid (∀ (m b : Nat) (fi : Nat → Int) (wr : World), 0 < m → m < b → b ≤ n → Gr g w wr → RowF wr g n fi → Same 0 n f fi → (∀ s t, s < m → m ≤ t → t < b → fi s < fi t) → SortedOn (ltK k) fi 0 m → SortedOn (ltK k) fi m b → Calls Try.prog 119 #[.slice (some ⟨g, 0, none⟩) n cap, .int .i64 0, .int .i64 m, .int .i64 b, .func (.func gf) #[] caps] wr (fun e w' => e = .returned (.tuple #[]) ∧ ∃ fj, RowF w' g n fj ∧ Gr g w w' ∧ SortedOn (ltK k) fj 0 b ∧ Same 0 b fi fj)) := fun m b fi wr h1 h2 h3 hg hr hs hx o1 o2 => by
    refine (sym_any gf caps g n cap HC hk hcf (by omega) b 0 m b fi wr (by omega) h1 h2 h3 (fun i i1 i2 => by
      obtain ⟨j, j1, j2, e⟩ := hs.from_ i i1 (by omega)
      rw [e]
      exact hV j j2) (fun s t _ s2 t1 t2 => hx s t s2 t1 t2) o1 o2 (HC.inv _ _ hI hg) hr).mono ?_
    rintro e w' ⟨rfl, fj, hr', hg', hs', he⟩
    exact ⟨rfl, fj, hr', gr_trans hg hg', hs', he⟩
  have HR := Lib.hid h
  have HINC := Lib.hid hinc
  clear HC hk hcf hV hinc hI h
  go_enter Try.func110, Try.ntmps110
  go_wp2_with fail
  go_loopw [7, 8] (fun av bv wr => ∃ (a : Nat) (fi : Nat → Int), av = .int .i64 (a : Nat) ∧ bv = .int .i64 (a + 20 : Nat) ∧ a % 20 = 0 ∧ a ≤ n ∧ RowF wr g n fi ∧ Gr g w wr ∧ Blocks (ltK k) f fi n a) (fun av _ _ => n - (intOf av).toNat)
  case atStart => exact ⟨0, f, rfl, rfl, rfl, Nat.zero_le _, HR.out, gr_refl _ _, ⟨fun _ _ => rfl, fun t ht => ⟨t, ht, rfl, rfl⟩, fun s t _ h2 => absurd h2 (Nat.not_lt_zero _), Same.refl _ _ _⟩⟩
  case round =>
    obtain ⟨a, fi, rfl, rfl, ha, han, hrow, hgr, hbl⟩ := hrel
    have HW := Lib.hid hrow
    have HG := Lib.hid hgr
    have HB := Lib.hid hbl
    have a1 : (a : Int) ≤ 60 := by omega
    clear hrow hgr hbl
    by_cases hle : a + 20 ≤ n
    · have d1 : decide (((a + 20 : Nat) : Int) ≤ (n : Int)) = true := decide_eq_true (by omega)
      have d2 : decide (a + 20 ≤ n) = true := decide_eq_true hle
      have d3 : decide ((a : Int) + 20 ≤ (n : Int)) = true := decide_eq_true (by omega)
      have HLE := Lib.hid hle
      have HCALL := Lib.hid (HIS.out a (a + 20) fi wr (by omega) hle ha (Nat.le_refl _) HG.out HW.out HB.out)
      clear hle
      go_wp2_with fail
      refine HCALL.out.mono ?_
      rintro e w1 ⟨rfl, fj, hr, hg, hb⟩
      have HW1 := Lib.hid hr
      have HG1 := Lib.hid hg
      have HB1 := Lib.hid hb
      clear hr hg hb
      go_wp2_with fail
      go_roundw
      case rel => exact ⟨a + 20, fj, by first | rfl | go_num, by first | rfl | go_num | (congr 1; omega), by omega, HLE.out, HW1.out, HG1.out, HB1.out⟩
      case measure => have := HLE.out; simp [intOf]; omega
    · have d1 : decide (((a + 20 : Nat) : Int) ≤ (n : Int)) = false := decide_eq_false (by omega)
      have d2 : decide (a + 20 ≤ n) = false := decide_eq_false hle
      have d3 : decide ((a : Int) + 20 ≤ (n : Int)) = false := decide_eq_false (by omega)
      have HLE := Lib.hid hle
      have HCALL := Lib.hid (HIS.out a n fi wr han (Nat.le_refl _) ha (by omega) HG.out HW.out HB.out)
      clear hle
      go_wp2_with fail
      refine HCALL.out.mono ?_
      rintro e w1 ⟨rfl, fj, hr, hg, hb⟩
      have HW1 := Lib.hid hr
      have HG1 := Lib.hid hg
      have HB1 := Lib.hid hb
      clear hr hg hb
      go_wp2_with fail
      have HX : Hid (∀ s t, s < n → t < n → s / 20 < t / 20 → fj s < fj t) := fun s t h1 h2 h3 => by
        obtain ⟨u, u1, u2, e1⟩ := HB1.out.own s h1
        obtain ⟨v, v1, v2, e2⟩ := HB1.out.own t h2
        rw [e1, e2]
        exact HINC.out u v (by omega) v1
      go_loopw [6] (fun sv wr' => (sv = .int .i64 20 ∧ RowF wr' g n fj ∧ Gr g w wr') ∨ (sv = .int .i64 40 ∧ ∃ fk, RowF wr' g n fk ∧ Gr g w wr' ∧ Same 0 n f fk ∧ (∀ s t, s < t → t < n → t < 40 → ltK k (fk s) (fk t)) ∧ (∀ s t, 40 ≤ s → s < t → t < n → ltK k (fk s) (fk t)) ∧ (∀ s t, s < 40 → 40 ≤ t → t < n → fk s < fk t)) ∨ (sv = .int .i64 80 ∧ ∃ fk, RowF wr' g n fk ∧ Gr g w wr' ∧ Same 0 n f fk ∧ SortedOn (ltK k) fk 0 n)) (fun sv _ => 100 - (intOf sv).toNat)
      case atStart => exact Or.inl ⟨rfl, HW1.out, HG1.out⟩
      case round =>
        clear HW HG HB HCALL d1 d2 d3
        rcases hrel with ⟨rfl, hrow, hgr⟩ | ⟨rfl, fk, hrow, hgr, hsm, ho1, ho2, hx⟩ | ⟨rfl, fk, hrow, hgr, hsm, ho⟩
        · have HW2 := Lib.hid hrow
          have HG2 := Lib.hid hgr
          clear hrow hgr
          by_cases h20 : 20 < n
          · have e1 : decide (20 < (n : Int)) = true := decide_eq_true (by omega)
            have e2 : decide (20 < n) = true := decide_eq_true h20
            have e3 : decide (80 ≤ (n : Int)) = false := decide_eq_false (by omega)
            have e4 : decide (80 ≤ n) = false := decide_eq_false (by omega)
            have e5 : decide (60 < (n : Int)) = false := decide_eq_false (by omega)
            have e6 : decide (60 < n) = false := decide_eq_false (by omega)
            by_cases h40 : n < 40
            · have e7 : decide (40 ≤ (n : Int)) = false := decide_eq_false (by omega)
              have e8 : decide (40 ≤ n) = false := decide_eq_false (by omega)
              have HC2 := Lib.hid (HSM.out 20 n fj wr (by omega) h20 (Nat.le_refl _) HG2.out HW2.out HB1.out.same (fun s t h1 h2 h3 => HX.out s t (by omega) h3 (by omega)) (fun s t _ h1 h2 => HB1.out.sorted s t h1 (by omega) (by omega)) (fun s t h0 h1 h2 => HB1.out.sorted s t h1 (by omega) (by omega)))
              have HN := Lib.hid h40
              clear h20 h40
              go_wp2_with fail
              go_loopw [7, 8] (fun av bv wr' => av = .int .i64 0 ∧ bv = .int .i64 40 ∧ wr' = wr) (fun _ _ _ => 0)
              case atStart => exact ⟨rfl, rfl, rfl⟩
              case round =>
                obtain ⟨rfl, rfl, rfl⟩ := hrel
                go_wp2_with fail
                refine HC2.out.mono ?_
                rintro e w2 ⟨rfl, fk, hr, hg, hs, he⟩
                have HW3 := Lib.hid hr
                have HG3 := Lib.hid hg
                have HS3 := Lib.hid hs
                have HE3 := Lib.hid he
                clear hr hg hs he
                go_wp2_with fail
                go_roundw
                case rel => exact Or.inr (Or.inl ⟨by first | rfl | go_num, fk, HW3.out, HG3.out, HB1.out.same.trans HE3.out, fun s t h1 h2 _ => HS3.out s t (Nat.zero_le _) h1 h2, fun s t h1 h2 h3 => by have := HN.out; omega, fun s t h1 h2 h3 => by have := HN.out; omega⟩)
                case measure => simp [intOf]
            · have e7 : decide (40 ≤ (n : Int)) = true := decide_eq_true (by omega)
              have e8 : decide (40 ≤ n) = true := decide_eq_true (by omega)
              have HC2 := Lib.hid (HSM.out 20 40 fj wr (by omega) (by omega) (by omega) HG2.out HW2.out HB1.out.same (fun s t h1 h2 h3 => HX.out s t (by omega) (by omega) (by omega)) (fun s t _ h1 h2 => HB1.out.sorted s t h1 (by omega) (by omega)) (fun s t h0 h1 h2 => HB1.out.sorted s t h1 (by omega) (by omega)))
              have HN := Lib.hid h40
              clear h20 h40
              go_wp2_with fail
              go_loopw [7, 8] (fun av bv wr' => (av = .int .i64 0 ∧ bv = .int .i64 40 ∧ wr' = wr) ∨ (av = .int .i64 40 ∧ bv = .int .i64 80 ∧ ∃ fk, RowF wr' g n fk ∧ Gr g w wr' ∧ SortedOn (ltK k) fk 0 40 ∧ Same 0 40 fj fk)) (fun av _ _ => 100 - (intOf av).toNat)
              case atStart => exact Or.inl ⟨rfl, rfl, rfl⟩
              case round =>
                rcases hrel with ⟨rfl, rfl, rfl⟩ | ⟨rfl, rfl, fk, hr, hg, hs, he⟩
                · go_wp2_with fail
                  refine HC2.out.mono ?_
                  rintro e w2 ⟨rfl, fk, hr, hg, hs, he⟩
                  have HW3 := Lib.hid hr
                  have HG3 := Lib.hid hg
                  have HS3 := Lib.hid hs
                  have HE3 := Lib.hid he
                  clear hr hg hs he
                  go_wp2_with fail
                  go_roundw
                  case rel => exact Or.inr ⟨by first | rfl | go_num, by first | rfl | go_num, fk, HW3.out, HG3.out, HS3.out, HE3.out⟩
                  case measure => simp [intOf]
                · have HW3 := Lib.hid hr
                  have HG3 := Lib.hid hg
                  have HS3 := Lib.hid hs
                  have HE3 := Lib.hid he
                  clear hr hg hs he
                  go_wp2_with fail
                  go_roundw
                  case rel => exact Or.inr (Or.inl ⟨by first | rfl | go_num, fk, HW3.out, HG3.out, HB1.out.same.trans (HE3.out.wide (Nat.le_refl _) (by have := HN.out; omega)), fun s t h1 _ h3 => HS3.out s t (Nat.zero_le _) h1 h3, fun s t h0 h1 h2 => by
                      rw [HE3.out.out s (by omega), HE3.out.out t (by omega)]
                      exact HB1.out.sorted s t h1 h2 (by omega), fun s t h1 h2 h3 => by
                      obtain ⟨s', s1, s2, es⟩ := HE3.out.from_ s (Nat.zero_le _) h1
                      rw [es, HE3.out.out t (by omega)]
                      exact HX.out s' t (by omega) h3 (by omega)⟩)
                  case measure => simp [intOf]
          · have e1 : decide (20 < (n : Int)) = false := decide_eq_false (by omega)
            have e2 : decide (20 < n) = false := decide_eq_false h20
            have HS : Hid (SortedOn (ltK k) fj 0 n) := fun s t _ h1 h2 => HB1.out.sorted s t h1 (by omega) (by omega)
            clear h20
            go_wp2_with fail
            go_end0
            exact ⟨rfl, fj, HW2.out, HG2.out, HS.out, HB1.out.same⟩
        · have HW2 := Lib.hid hrow
          have HG2 := Lib.hid hgr
          have HSM2 := Lib.hid hsm
          have HO1 := Lib.hid ho1
          clear hrow hgr hsm ho1
          by_cases h40 : 40 < n
          · have e1 : decide (40 < (n : Int)) = true := decide_eq_true (by omega)
            have e2 : decide (40 < n) = true := decide_eq_true h40
            have e3 : decide (80 ≤ (n : Int)) = false := decide_eq_false (by omega)
            have e4 : decide (80 ≤ n) = false := decide_eq_false (by omega)
            have HC2 := Lib.hid (HSM.out 40 n fk wr (by omega) h40 (Nat.le_refl _) HG2.out HW2.out HSM2.out hx (fun s t _ h1 h2 => HO1.out s t h1 (by omega) h2) (fun s t h0 h1 h2 => ho2 s t h0 h1 h2))
            clear h40 hx ho2
            go_wp2_with fail
            go_loopw [7, 8] (fun av bv wr' => av = .int .i64 0 ∧ bv = .int .i64 80 ∧ wr' = wr) (fun _ _ _ => 0)
            case atStart => exact ⟨rfl, rfl, rfl⟩
            case round =>
              obtain ⟨rfl, rfl, rfl⟩ := hrel
              go_wp2_with fail
              refine HC2.out.mono ?_
              rintro e w2 ⟨rfl, fl, hr, hg, hs, he⟩
              have HW3 := Lib.hid hr
              have HG3 := Lib.hid hg
              have HS3 := Lib.hid hs
              have HE3 := Lib.hid he
              clear hr hg hs he
              go_wp2_with fail
              go_roundw
              case rel => exact Or.inr (Or.inr ⟨by first | rfl | go_num, fl, HW3.out, HG3.out, HSM2.out.trans HE3.out, HS3.out⟩)
              case measure => simp [intOf]
          · have e1 : decide (40 < (n : Int)) = false := decide_eq_false (by omega)
            have e2 : decide (40 < n) = false := decide_eq_false h40
            have HS : Hid (SortedOn (ltK k) fk 0 n) := fun s t _ h1 h2 => HO1.out s t h1 h2 (by omega)
            clear h40 hx ho2
            go_wp2_with fail
            go_end0
            exact ⟨rfl, fk, HW2.out, HG2.out, HS.out, HSM2.out⟩
        · have HW2 := Lib.hid hrow
          have HG2 := Lib.hid hgr
          have HSM2 := Lib.hid hsm
          have HO := Lib.hid ho
          have e1 : decide (80 < (n : Int)) = false := decide_eq_false (by omega)
          have e2 : decide (80 < n) = false := decide_eq_false (by omega)
          clear hrow hgr hsm ho
          go_wp2_with fail
          go_end0
          exact ⟨rfl, fk, HW2.out, HG2.out, HO.out, HSM2.out⟩
end Go.Proofs.Ytncbieaobadekaa
