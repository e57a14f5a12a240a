/- Tables: Clone, Rows. -/
import Derived.Test.YthmbpoldjddheaaTabNear
namespace Go.Proofs.Ythmbpoldjddheaa
open Go.ChangeShapes Go.WideShapes Go.ChangeAt Go.RowKit
theorem infoT : (Try.prog.info? 39).map (fun i => (i.zero, i.size, i.bytes)) = some (some (.agg #[.int .i64 0, .string ⟨#[]⟩]), 2, 24) := by kernel_rfl
theorem rowCells_one (a : Nat → Int) (s : Nat → ByteArray) : ∀ n, ∀ u ∈ rowCells a s n, u.oneCell' = true
  | 0, _, h => by cases h
  | n + 1, u, h => by
    rw [rowCells] at h
    rcases List.mem_append.1 h with h | h
    · exact rowCells_one a s n u h
    · rcases List.mem_cons.1 h with rfl | h
      · rfl
      · obtain rfl : u = .string (s n) := by simpa using h
        rfl
set_option maxRecDepth 100000 in
set_option maxHeartbeats 2000000 in
theorem rowclone_any (B n : Nat) (a : Nat → Int) (s : Nat → ByteArray) (v : Value) (hn : n ≤ 1000) (w : World) (h : OwnsR w B 39 v n a s) :
    Calls Try.prog 51 #[v] w (fun e w' => Below w.heap.size w w' ∧ ∃ v', e = .returned v' ∧ OwnsR w' w.heap.size 39 v' n a s) := by
  obtain ⟨i0, hinf, hz0, hz1, hz2⟩ := info_parts infoT
  have q22 : ∀ (w : World) (a : Option Addr) (n c n' c' : Nat), (binOp .eql 33 (.slice a n c) (.slice none n' c')).run Try.prog w = .ok (.bool a.isNone) w := fun w a n c n' c' => Lib.run_eql_slice_nil w _ _ a n c n' c' Try.underlying33
  rcases h.2 with ⟨rfl, rfl⟩ | ⟨g, cap, cur, rfl, hB, hh, hr⟩
  · clear h hn
    go_enter Try.func51, Try.ntmps51
    go_wp2_with fail
    go_ret
    exact ⟨Below.refl _ _, _, rfl, OwnsR.nil _ _ _ _ _⟩
  · have HH := Lib.hid h
    have hown : ∀ W : World, (W.alloc (.cells #[] 39)).ownsRow W.heap.size 39 2 (.slice (some ⟨W.heap.size, 0, none⟩) 0 0) 0 [] := fun W => ⟨rfl, Or.inr ⟨W.heap.size, 0, #[], rfl, Nat.le_refl _, heap_alloc_new _ _, Nat.le_refl _, Nat.zero_le _, rfl, rfl⟩⟩
    have HOW := Lib.hid (hown w)
    clear hown h hB hh hr
    go_enter Try.func51, Try.ntmps51
    go_wp2_with (at_builtin; refine wpList_append_own _ rfl _ _ 33 rfl w.heap.size 39 i0 (.agg #[.int .i64 0, .string ⟨#[]⟩]) 2 24 Try.underlying33 hinf hz0 hz1 hz2 rfl (by decide) _ 0 [] rfl HOW.out ⟨g, 0, none⟩ n cap (rowCells a s n) rfl (rowCells_length a s n) ?c1 (rowCells_one a s n) ?c3 ?c4 ?c5 ?_)
    case c1 =>
      intro j u hj
      have hadd : (⟨g, 0, none⟩ : Addr).add j = ⟨g, j, none⟩ := by unfold Addr.add; split <;> simp_all
      have hjn : j < n * 2 := by
        have h1 := (List.getElem?_eq_some_iff.1 hj).1
        rwa [rowCells_length] at h1
      have hg := (World.ownsRow.lt HH.out g rfl).2
      rw [hadd, World.cell?_of_block (w := w) (Below.heap_alloc _ _ _ (by exact hg)), World.ownsRow.cellAt HH.out j hjn]
      exact hj
    case c3 => unfold maxLen; omega
    case c4 => omega
    case c5 => simp
    intro v' w' hown' hgrow _
    have HOW' : Hid (OwnsR w' w.heap.size 39 v' n a s) := hown'
    have HB : Hid (Below w.heap.size w w') := ((Below.refl _ _).alloc (Nat.le_refl _) _).grown hgrow (by simp) (fun k' hk' => (HOW.out.lt k' hk').1)
    clear hown' hgrow
    go_wp2
    go_ret
    exact ⟨HB.out, v', rfl, HOW'.out⟩
set_option maxHeartbeats 2000000 in
theorem rows_any (B g room n : Nat) (a : Nat → Int) (s : Nat → ByteArray) (v : Value) (hn : n ≤ 1000) (w : World) (h : TAt w B g room n a s v) :
    Calls Try.prog 13 #[.pointer (some ⟨g, 0, none⟩)] w (fun e w' => Below w.heap.size w w' ∧ ∃ v', e = .returned v' ∧ OwnsR w' w.heap.size 39 v' n a s) := by
  have HC := Lib.hid (rowclone_any B n a s v hn w h.rows)
  obtain ⟨ao, cap, rfl, _⟩ := h.rows.view
  have k1 : w.cell? ⟨g, 1, none⟩ = some (.slice ao n cap) := by simp [World.cell?, h.here]
  clear h hn
  go_enter Try.func13, Try.ntmps13
  go_wp2_with fail
  refine HC.out.mono ?_
  rintro e w1 ⟨hb, v', rfl, ho⟩
  have HB := Lib.hid hb
  have HO := Lib.hid ho
  clear hb ho
  go_wp2
  go_ret
  exact ⟨HB.out, v', rfl, HO.out⟩
set_option maxHeartbeats 4000000 in
theorem copy_any (B g room n : Nat) (a : Nat → Int) (s : Nat → ByteArray) (v : Value) (hn : n ≤ 1000) (w : World) (h : TAt w B g room n a s v) :
    Calls Try.prog 14 #[.pointer (some ⟨g, 0, none⟩)] w (fun e w' => Below w.heap.size w w' ∧ ∃ (g' : Nat) (v' : Value), e = .returned (.pointer (some ⟨g', 0, none⟩)) ∧ TAt w' w.heap.size g' room n a s v') := by
  have HR := Lib.hid (rows_any B g room n a s v hn w.drew ⟨h.lo, h.here, h.rows, h.apart, h.rises⟩)
  have HRI := Lib.hid h.rises
  have k0 : w.cell? ⟨g, 0, none⟩ = some (.int .i64 (room : Nat)) := by simp [World.cell?, h.here]
  have hg : g < w.heap.size := lt_of_block h.here
  clear h hn
  go_enter Try.func14, Try.ntmps14
  go_wp2_with fail
  go_region_held3 (fun w' => w'.cell? ⟨g, 0, none⟩ = some (.int .i64 (room : Nat))) (go_keep) ((go_at_call 13; refine HR.out.mono ?_; rintro e w1 ⟨hb, v', rfl, ho⟩; obtain ⟨a1, c1, rfl, hr1⟩ := ho.view; (have HO := Lib.hid ho); (have HB := Lib.hid hb); (have t1 : w1.cell? ⟨g, 0, none⟩ = some (.int .i64 (room : Nat)) := (hb.cell (by exact hg)).trans k0); clear hb ho hr1))
  all_goals
    go_wp2_with fail
    go_ret
    have hb : Below w.heap.size w w1 := (Below.refl _ _).drew.trans HB.out
    have ho : OwnsR w1 w.heap.size 39 (.slice a1 n c1) n a s := HO.out
    refine ⟨hb.alloc hb.size _, w1.heap.size, .slice a1 n c1, rfl, hb.size, heap_alloc_new _ _, World.ownsRow.alloc ho _, fun e => ?_, HRI.out⟩
    have := (World.ownsRow.lt ho _ e).2
    omega
end Go.Proofs.Ythmbpoldjddheaa
