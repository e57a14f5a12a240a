/- slices.SortFunc of places, by the keys that stand there. -/
import Derived.Test.YtncbieaobadekaaRankKeys
import Derived.Test.YtncbieaobadekaaRankNone
import Derived.Test.YtncbieaobadekaaRowz
import Derived.Shelf.SlSortCmp.Whole1
namespace Go.Proofs.Ytncbieaobadekaa
open Go.ChangeShapes Go.WideShapes Go.ChangeAt Go.RowKit
theorem below_sorted {α : Type} [Inhabited α] (enc : α → Value) (w : World) (B g off n : Nat) (d : Array α) (os : Array Obj) (hB : B ≤ g) (hg : g < w.heap.size) : Below B w (sortWorld enc w g off n d os) := by
  unfold sortWorld
  refine ⟨rfl, rfl, rfl, ?_, fun j hj => ?_⟩
  · rw [Sort.size_grow, Sort.size_putRow, Sort.heap_ahead]
    omega
  · rw [Sort.heap_grow_old _ _ (by rw [Sort.size_putRow, Sort.heap_ahead]; omega)]
    show (w.heap.modify g _)[j]? = _
    rw [Array.getElem?_modify, if_neg (by omega)]
def encF {n : Nat} (x : Fin n) : Value := .int .i64 (x.val : Int)
def ordF (K : Nat → Key) {n : Nat} (x y : Fin n) : Int := ordC K x.val y.val
theorem ordF_lt (K : Nat → Key) {n : Nat} (x y : Fin n) : ltOf (ordF K) x y = ordLt K x.val y.val := ordC_lt K x.val y.val
theorem ordF_swo (K : Nat → Key) (n : Nat) : Sort.SWO (ltOf (ordF K (n := n))) where
  irrefl x := by rw [ordF_lt]; exact (ordLt_n K n).irrefl _
  trans x y z h1 h2 := by rw [ordF_lt] at *; exact (ordLt_n K n).trans _ _ _ h1 h2
  ntrans x y z h1 h2 := by
    rw [ordF_lt] at *
    have H := ordLt_n K n
    cases h : ordLt K x.val z.val
    · rfl
    · by_cases e1 : y.val = x.val
      · rw [e1, h] at h2; cases h2
      · by_cases e2 : z.val = y.val
        · rw [← e2, h] at h1; cases h1
        · rcases H.total y.val x.val y.isLt x.isLt e1 with a | a
          · rcases H.total z.val y.val z.isLt y.isLt e2 with b | b
            · have := H.trans _ _ _ b (H.trans _ _ _ a h)
              rw [H.irrefl] at this; cases this
            · rw [b] at h2; cases h2
          · rw [a] at h1; cases h1
theorem all_size (n : Nat) : (Array.ofFn (n := n) id).size = n := by simp
theorem all_vals (n : Nat) : (Array.ofFn (n := n) id).toList.map (·.val) = List.range n := by
  apply List.ext_getElem
  · simp
  · intro i h1 h2
    simp
theorem extract_all {α : Type} (d : Array α) (n : Nat) (h : d.size = n) : d.extract 0 n = d := by subst h; simp
/-- What the sort leaves. -/
def Sorted (K : Nat → Key) (B g n : Nat) (wr : World) (e : Ending) (w' : World) : Prop :=
  e = .returned (.tuple #[]) ∧ Below B wr w' ∧ ∃ f, OrdF (ordLt K) n f ∧ IntsAt w' (some ⟨g, 0, none⟩) n (fun i => (f i : Nat))
theorem ordF_zero (K : Nat → Key) : OrdF (ordLt K) 0 id := ⟨fun _ hj => absurd hj (Nat.not_lt_zero _), fun _ hj => absurd hj (Nat.not_lt_zero _)⟩
theorem sortkeys_any (K : Nat → Key) (n cap c2 b off p g B : Nat) (hn : n ≤ 1000000) (hB : B ≤ g) (hp : p < g) (w : World) (hbox : w.cell? ⟨p, 0, none⟩ = some (.slice (some ⟨b, off, none⟩) n cap)) (hb : b < g) (hk : 0 < n → KeysAt w (some ⟨b, off, none⟩) n K) (hkb : ∀ i, i < n → ∀ q o, (K i).ao = some ⟨q, o, none⟩ → 0 < (K i).n → q < g) (hrow : RowF w g n (fun i => (i : Int))) :
    Calls Try.prog 69 #[.slice (some ⟨g, 0, none⟩) n c2, .func (.func 70) #[] #[.pointer (some ⟨p, 0, none⟩)]] w (Sorted K B g n w) := by
  rcases n with _ | m
  · refine (sort_none (some ⟨g, 0, none⟩) c2 _ w).mono ?_
    rintro e w' ⟨rfl, rfl⟩
    exact ⟨rfl, Below.refl _ _, id, ordF_zero K, fun h => absurd h (Nat.lt_irrefl _)⟩
  · have hK := hk (Nat.succ_pos m)
    have hg : g < w.heap.size := lt_of_block hrow
    have hH : Sort.Holds (encF (n := m + 1)) w g 0 (Array.ofFn (n := m + 1) id) := fun j hj => by
      have hj' : j < m + 1 := by simpa using hj
      rw [Nat.zero_add]
      refine ⟨?_, hrow.free j⟩
      rw [hrow.cell j hj']
      simp [encF, hj']
    have hcmp : CmpReads Try.prog 70 #[.pointer (some ⟨p, 0, none⟩)] (encF (n := m + 1)) (ordF K) g 0 (Array.ofFn (n := m + 1) id).size w := by
      intro q os dk hdk x y
      have hbl := below_sorted encF w g g 0 q dk os (Nat.le_refl _) hg
      refine order1_any K (m + 1) cap b off p x.val y.val hn x.isLt y.isLt _ ((hbl.cell (by exact hp)).trans hbox) ?_
      obtain ⟨h1, h2⟩ := hK
      refine ⟨fun i hi => ⟨(h1 i hi).1, fun hpos => ?_⟩, fun hpos => ?_⟩
      · obtain ⟨b1, o1, e1, l1, c1⟩ := (h1 i hi).2 hpos
        exact ⟨b1, o1, e1, Nat.lt_of_lt_of_le l1 hbl.size, fun t ht => (hbl.cell (by exact hkb i hi b1 o1 e1 hpos)).trans (c1 t ht)⟩
      · obtain ⟨b1, o1, e1, l1, c1⟩ := h2 hpos
        obtain ⟨rfl, rfl⟩ : b1 = b ∧ o1 = off := by injection e1 with e1; injection e1 with a1 a2; exact ⟨a1.symm, a2.symm⟩
        exact ⟨b1, o1, rfl, Nat.lt_of_lt_of_le l1 hbl.size, fun t ht => (hbl.cell (by exact hb)).trans (c1 t ht)⟩
    have eg : ∀ args w, (callFunc 70 args).run Try.prog w = .ok (.enter 70 args) w := enters_of Try.func70 (by kernel_rfl) rfl
    have hS := Try.slices_SortFunc encF (fun _ => rfl) (ordF K) (ordF_swo K (m + 1)) 70 #[.pointer (some ⟨p, 0, none⟩)] g 0 c2 (Array.ofFn (n := m + 1) id) w eg hcmp.lays hH hg (by rw [all_size]; omega)
    rw [all_size] at hS
    refine hS.mono ?_
    rintro e w' ⟨rfl, d', n', os, hperm, hsort, rfl⟩
    refine ⟨rfl, below_sorted encF w B g 0 n' d' os hB hg, ?_⟩
    obtain ⟨hsz, _, hpm⟩ := hperm
    have hsz2 : d'.size = m + 1 := by rw [hsz, all_size]
    rw [extract_all d' (m + 1) hsz2, extract_all (Array.ofFn (n := m + 1) id) (m + 1) (all_size _)] at hpm
    have hL : (d'.toList.map (·.val)).Perm (List.range (m + 1)) := by
      rw [← all_vals (m + 1)]
      exact hpm.map _
    have hso : ∀ i j (hij : i < j) (hj : j < (d'.toList.map (·.val)).length), ordLt K (d'.toList.map (·.val))[j] ((d'.toList.map (·.val))[i]'(Nat.lt_trans hij hj)) = false := fun i j hij hj => by
      have hj2 : j < m + 1 := by simpa [hsz2] using hj
      have := hsort i j (Nat.zero_le _) hij hj2
      rw [ordF_lt, getElem!_pos d' j (by omega), getElem!_pos d' i (by omega)] at this
      simpa using this
    refine ⟨_, ordF_of_list (ordLt_n K (m + 1)) hL hso, fun _ => ⟨g, 0, rfl, ?_, fun i hi => ?_⟩⟩
    · exact Nat.lt_of_lt_of_le hg (below_sorted encF w B g 0 n' d' os hB hg).size
    · have hw := SW.holds (enc := encF) (w0 := w) (blk := g) (off := 0) (dk := d') (W := sortWorld encF w g 0 n' d' os) ⟨n', os, rfl⟩ hg hH (by rw [hsz]) i (by omega)
      rw [hw.1, getElem!_pos d' i (by omega)]
      simp [encF, hsz2, hi]
end Go.Proofs.Ytncbieaobadekaa
