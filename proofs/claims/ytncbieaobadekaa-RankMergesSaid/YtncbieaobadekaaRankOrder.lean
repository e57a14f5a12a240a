/- Package rank: Order. -/
import Derived.Test.YtncbieaobadekaaRankSort
namespace Go.Proofs.Ytncbieaobadekaa
open Go.ChangeShapes Go.WideShapes Go.ChangeAt Go.RowKit
def OrdersK (K : Nat → Key) (n : Nat) (w : World) (e : Ending) (w' : World) : Prop :=
  Below w.heap.size w w' ∧ ∃ (g : Nat) (f : Nat → Nat), w.heap.size ≤ g ∧ e = .returned (.slice (some ⟨g, 0, none⟩) n n) ∧ OrdF (ordLt K) n f ∧ IntsAt w' (some ⟨g, 0, none⟩) n (fun i => (f i : Nat))
theorem sort_here (K : Nat → Key) (n cap : Nat) (ao : Option Addr) (hn : n ≤ 1000000) (w : World) (h : KeysAt w ao n K) (wr : World) (hb : Below w.heap.size w wr) (hrow : RowF wr (w.heap.size + 1) n (fun i => (i : Int))) (hbox : wr.cell? ⟨w.heap.size, 0, none⟩ = some (.slice ao n cap)) :
    Calls Try.prog 69 #[.slice (some ⟨w.heap.size + 1, 0, none⟩) n n, .func (.func 70) #[] #[.pointer (some ⟨w.heap.size, 0, none⟩)]] wr (Sorted K w.heap.size (w.heap.size + 1) n wr) := by
  rcases Nat.eq_zero_or_pos n with rfl | hpos
  · refine (sort_none _ _ _ wr).mono ?_
    rintro e w' ⟨rfl, rfl⟩
    exact ⟨rfl, Below.refl _ _, id, ordF_zero K, fun h => absurd h (Nat.lt_irrefl _)⟩
  · obtain ⟨b, off, rfl, hlt, hc⟩ := h.2 hpos
    exact sortkeys_any K n cap n b off w.heap.size (w.heap.size + 1) w.heap.size hn (Nat.le_succ _) (Nat.lt_succ_self _) wr hbox (by omega) (fun _ => h.below hb) (fun i hi q o e hp => by
      obtain ⟨q', o', e', l', _⟩ := (h.1 i hi).2 hp
      rw [e'] at e
      injection e with e
      injection e with e1 e2
      omega) hrow
set_option maxHeartbeats 1000000 in
theorem order_any (K : Nat → Key) (n cap : Nat) (ao : Option Addr) (hn : n ≤ 1000000) (w : World) (h : KeysAt w ao n K) :
    Calls Try.prog 40 #[.slice ao n cap] w (OrdersK K n w) := by
  have HS := Lib.hid (fun wr h1 h2 h3 => sort_here K n cap ao hn w h wr h1 h2 h3)
  have n2 : (n : Int) ≤ 1000000 := by omega
  have mk := makeN n hn
  clear h hn
  go_enter Try.func40, Try.ntmps40
  go_wp2_with fail
  clear mk
  go_loopw [10] (fun iv wr => ∃ k : Nat, k ≤ n ∧ iv = .int .i64 (k : Nat) ∧ Below w.heap.size w wr ∧ RowF wr (w.heap.size + 1) n (fun i => if i < k then (i : Int) else 0) ∧ wr.cell? ⟨w.heap.size, 0, none⟩ = some (.slice ao n cap)) (fun iv _ => n - (intOf iv).toNat)
  case atStart =>
    refine ⟨0, Nat.zero_le _, rfl, by go_grown, ?_, ?_⟩
    · have := RowF.made (w.alloc (Obj.cells #[Value.slice ao n cap] 61)) n
      rw [show (w.alloc (Obj.cells #[Value.slice ao n cap] 61)).heap.size = w.heap.size + 1 from by simp] at this
      exact this.congr fun i _ => by rw [if_neg (by omega)]
    · have hb : ((w.alloc (Obj.cells #[Value.slice ao n cap] 61)).alloc (Obj.cells (madeCells #[Value.int IntKind.i64 0] n) 3)).heap[w.heap.size]? = some (Obj.cells #[Value.slice ao n cap] 61) := by
        rw [Below.heap_alloc _ _ _ (by simp)]
        exact heap_alloc_new _ _
      simp [World.cell?, hb]
  case round =>
    obtain ⟨k, hk, rfl, hbel, hrow, hbox⟩ := hrel
    have hk2 : (k : Int) ≤ n := by omega
    have HBel := Lib.hid hbel
    have HW := Lib.hid hrow
    have HBox := Lib.hid hbox
    clear hbel hbox
    by_cases hlt : k < n
    · have c3 := hrow.cell k hlt
      have e3 := hrow.free k
      have HSt := Lib.hid (hrow.store k (k : Int))
      clear hrow
      go_wp2_with fail
      go_roundw
      case rel =>
        refine ⟨k + 1, by omega, by go_num, HBel.out.setCell (Nat.le_succ _) _, HSt.out.congr fun i hi => ?_, ?_⟩
        · unfold put
          by_cases hik : i = k
          · rw [if_pos hik, if_pos (by omega), hik]
          · rw [if_neg hik]
            dsimp only
            by_cases hlk : i < k
            · rw [if_pos hlk, if_pos (by omega)]
            · rw [if_neg hlk, if_neg (by omega)]
        · rw [World.cell?_setCell_other _ _ _ _ (by simp)]
          exact HBox.out
      case measure => simp [intOf]; omega
    · obtain rfl : k = n := by omega
      have HRow : Hid (RowF wr (w.heap.size + 1) k (fun i => (i : Int))) := HW.out.congr fun i hi => by rw [if_pos hi]
      have HSS := Lib.hid (HS.out wr HBel.out HRow.out HBox.out)
      clear hrow hlt
      go_wp2_with fail
      refine HSS.out.mono ?_
      rintro e w1 ⟨rfl, h1, f, hf1, hf2⟩
      have H1 := Lib.hid h1
      have HF1 := Lib.hid hf1
      have HF2 := Lib.hid hf2
      clear h1 hf1 hf2
      go_wp2_with fail
      go_ret
      exact ⟨HBel.out.trans H1.out, w.heap.size + 1, f, Nat.le_succ _, rfl, HF1.out, HF2.out⟩
end Go.Proofs.Ytncbieaobadekaa
