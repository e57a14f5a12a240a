/- byRest: places, that of the greatest remainder first. -/
import Derived.Test.YtncbieaobadekaaShareCmp3
import Derived.Test.YtncbieaobadekaaSort10
namespace Go.Proofs.Ytncbieaobadekaa
open Go.ChangeShapes Go.WideShapes Go.ChangeAt Go.RowKit
theorem sortStable_few {V : Int → Prop} {cf : Int → Int → Int} {Inv : World → Prop} {k : Int → Int → Prop} (gf : Nat) (caps : Array Value) (f : Nat → Int) (g n cap : Nat) (HC : CmpOk gf caps g V cf Inv) (hk : SWO k) (hcf : ∀ x y, V x → V y → (cf x y < 0 ↔ k x y))
    (hn : n ≤ 60) (hV : ∀ i, i < n → V (f i)) (hinc : ∀ i j, i < j → j < n → f i < f j) (w : World) (hI : Inv w) (h : RowF w g n f) :
    Calls Try.prog 93 #[.slice (some ⟨g, 0, none⟩) n cap, .func (.func gf) #[] caps] w (Sorts (ltK k) g n f 0 n w) := by
  have HS := Lib.hid (stable_any gf caps f g n cap HC hk hcf hn hV hinc w hI h)
  clear HC hk hcf hV hinc hI h hn
  go_enter Try.func93, Try.ntmps93
  go_wp2_with fail
  refine HS.out.mono ?_
  rintro e w1 ⟨rfl, h1⟩
  have H1 := Lib.hid h1
  clear h1
  go_wp2_with fail
  go_end0
  exact ⟨rfl, H1.out⟩
theorem below_gr {B g : Nat} {w w1 w2 : World} (hb : Below B w w1) (hB : B ≤ w.heap.size) (hg : B ≤ g) (h : Gr g w1 w2) : Below B w w2 :=
  ⟨h.os.trans hb.os, h.tape.trans hb.tape, h.output.trans hb.output, Nat.le_trans hb.size h.size, fun k hk => (h.block k (by have := hb.size; omega) (fun e => by injection e; omega)).trans (hb.block k hk)⟩
def Orders (z : Nat → Int) (n : Nat) (w : World) (e : Ending) (w' : World) : Prop :=
  Below w.heap.size w w' ∧ ∃ (g : Nat) (f' : Nat → Int), w.heap.size ≤ g ∧ e = .returned (.slice (some ⟨g, 0, none⟩) n n) ∧ RowF w' g n f' ∧ SortedOn (ltK (restK z)) f' 0 n ∧ Same 0 n (fun i => (i : Int)) f'
theorem byRest_few (z : Nat → Int) (n cap r off : Nat) (hn : n ≤ 60) (w : World) (hr : r < w.heap.size) (hc : ∀ i, i < n → w.cell? ⟨r, off + i, none⟩ = some (.int .i64 (z i))) :
    Calls Try.prog 76 #[.slice (some ⟨r, off, none⟩) n cap] w (Orders z n w) := by
  have HC := Lib.hid hc
  have HR := Lib.hid hr
  have HN := Lib.hid hn
  have n2 : (n : Int) ≤ 60 := by omega
  have mk := makeN n (by omega)
  clear hc hr hn
  go_enter Try.func76, Try.ntmps76
  go_wp2_with fail
  clear mk
  go_loopw [10] (fun iv wr => ∃ k : Nat, k ≤ n ∧ iv = .int .i64 (k : Nat) ∧ Below w.heap.size w wr ∧ RowF wr (w.heap.size + 1) n (fun i => if i < k then (i : Int) else 0) ∧ wr.cell? ⟨w.heap.size, 0, none⟩ = some (.slice (some ⟨r, off, none⟩) n cap)) (fun iv _ => n - (intOf iv).toNat)
  case atStart =>
    refine ⟨0, Nat.zero_le _, rfl, by go_grown, ?_, ?_⟩
    · have := RowF.made (w.alloc (Obj.cells #[Value.slice (some ⟨r, off, none⟩) n cap] 22)) n
      rw [show (w.alloc (Obj.cells #[Value.slice (some ⟨r, off, none⟩) n cap] 22)).heap.size = w.heap.size + 1 from by simp] at this
      exact this.congr fun i _ => by rw [if_neg (by omega)]
    · have hb : ((w.alloc (Obj.cells #[Value.slice (some ⟨r, off, none⟩) n cap] 22)).alloc (Obj.cells (madeCells #[Value.int IntKind.i64 0] n) 3)).heap[w.heap.size]? = some (Obj.cells #[Value.slice (some ⟨r, off, none⟩) n cap] 22) := by
        rw [Below.heap_alloc _ _ _ (by simp)]
        exact heap_alloc_new _ _
      simp [World.cell?, hb]
  case round =>
    obtain ⟨k, hk, rfl, hbel, hrow, hbox⟩ := hrel
    have hk2 : (k : Int) ≤ n := by omega
    have HBel := Lib.hid hbel
    have HW := Lib.hid hrow
    have HBox := Lib.hid hbox
    clear hbel hbox
    by_cases hlt : k < n
    · have c3 := hrow.cell k hlt
      have e3 := hrow.free k
      have HS := Lib.hid (hrow.store k (k : Int))
      clear hrow
      go_wp2_with fail
      go_roundw
      case rel =>
        refine ⟨k + 1, by omega, by go_num, HBel.out.setCell (Nat.le_succ _) _, HS.out.congr fun i hi => ?_, ?_⟩
        · unfold put
          by_cases hik : i = k
          · rw [if_pos hik, if_pos (by omega), hik]
          · rw [if_neg hik]
            dsimp only
            by_cases hlk : i < k
            · rw [if_pos hlk, if_pos (by omega)]
            · rw [if_neg hlk, if_neg (by omega)]
        · exact gr_cell (gr_set (gr_refl (w.heap.size + 1) wr) k (.int .i64 k)) HBox.out (by omega)
      case measure => simp [intOf]; omega
    · obtain rfl : k = n := by omega
      have HRow : Hid (RowF wr (w.heap.size + 1) k (fun i => (i : Int))) := HW.out.congr fun i hi => by rw [if_pos hi]
      have HI : Hid (RestInv z k cap r off w.heap.size (w.heap.size + 1) wr) := ⟨by omega, fun _ => by have := HR.out; omega, HBox.out, fun i hi => (HBel.out.cell (by exact HR.out)).trans (HC.out i hi)⟩
      have hSS := sortStable_few 94 #[.pointer (some ⟨w.heap.size, 0, none⟩)] (fun i => (i : Int)) (w.heap.size + 1) k k (rest_ok z k cap r off w.heap.size (w.heap.size + 1) (by have := HN.out; omega)) (rest_swo z) (fun x y _ _ => restC_lt z x y) HN.out (fun i hi => ⟨by omega, by omega⟩) (fun i j h1 h2 => by omega) wr HI.out HRow.out
      have HSS := Lib.hid hSS
      clear hSS hrow hlt
      go_wp2_with fail
      refine HSS.out.mono ?_
      rintro e w1 ⟨rfl, f', h1⟩
      have H1 := Lib.hid h1
      clear h1
      go_wp2_with fail
      go_ret
      exact ⟨below_gr HBel.out (Nat.le_refl _) (Nat.le_succ _) H1.out.2.1, w.heap.size + 1, f', Nat.le_succ _, rfl, H1.out.1, H1.out.2.2.1, H1.out.2.2.2⟩
end Go.Proofs.Ytncbieaobadekaa
