/- Tables of one's own; Set. -/
import Derived.Test.YthmbpoldjddheaaTabPut
namespace Go.Proofs.Ythmbpoldjddheaa
open Go.ChangeShapes Go.WideShapes Go.ChangeAt Go.RowKit
/-- A table of one's own lies at g, its rows at v. -/
structure TAt (w : World) (B g room n : Nat) (a : Nat → Int) (s : Nat → ByteArray) (v : Value) : Prop where
  lo : B ≤ g
  here : w.heap[g]? = some (.cells #[.int .i64 (room : Nat), v] 90 (0, 0))
  rows : OwnsR w B 39 v n a s
  apart : v.ownBlock ≠ some g
  rises : Rises a n
theorem TAt.at {w : World} {B g room n : Nat} {a : Nat → Int} {s : Nat → ByteArray} {v : Value} (h : TAt w B g room n a s v) : TabAt w g room n a s := by
  obtain ⟨ao, cap, rfl, hr⟩ := h.rows.view
  exact ⟨lt_of_block h.here, by simp [World.cell?, h.here], ⟨ao, cap, by simp [World.cell?, h.here], hr⟩, h.rises⟩
/-- What is kept: a table stays where none of its blocks is written. -/
theorem TAt.kept {S : Nat → Prop} {w w' : World} {B g room n : Nat} {a : Nat → Int} {s : Nat → ByteArray} {v : Value} (h : TAt w B g room n a s v) (k : Kept S w w') (h1 : ¬ S g) (h2 : ∀ b, v.ownBlock = some b → ¬ S b) : TAt w' B g room n a s v := by
  refine ⟨h.lo, (k.block g (lt_of_block h.here) h1).trans h.here, ⟨h.rows.1, ?_⟩, h.apart, h.rises⟩
  rcases h.rows.2 with r | ⟨b, cap, cur, rfl, e2, e3, e4⟩
  · exact Or.inl r
  · exact Or.inr ⟨b, cap, cur, rfl, e2, (k.block b (lt_of_block e3) (h2 b rfl)).trans e3, e4⟩
theorem QAt.kept {S : Nat → Prop} {w w' : World} {B g room n : Nat} {a : Nat → Int} {s : Nat → ByteArray} {v : Value} (h : QAt w B g room n a s v) (k : Kept S w w') (h1 : ¬ S g) (h2 : ∀ b, v.ownBlock = some b → ¬ S b) : QAt w' B g room n a s v := by
  refine ⟨h.lo, (k.block g (lt_of_block h.here) h1).trans h.here, ⟨h.rows.1, ?_⟩, h.apart⟩
  rcases h.rows.2 with r | ⟨b, cap, cur, rfl, e2, e3, e4⟩
  · exact Or.inl r
  · exact Or.inr ⟨b, cap, cur, rfl, e2, (k.block b (lt_of_block e3) (h2 b rfl)).trans e3, e4⟩
theorem rowCells_set (a : Nat → Int) (s : Nat → ByteArray) (p : Nat) (t : ByteArray) : ∀ n, p < n → (rowCells a s n).set (p * 2 + 1) (.string t) = rowCells a (fun i => if i = p then t else s i) n
  | 0, h => absurd h (Nat.not_lt_zero _)
  | n + 1, h => by
    have hl := rowCells_length a s n
    rw [rowCells, rowCells]
    rcases Nat.lt_or_ge p n with l | l
    · rw [List.set_append_left _ _ (by omega), rowCells_set a s p t n l, if_neg (by omega)]
    · obtain rfl : p = n := by omega
      rw [List.set_append_right _ _ (by omega), hl, if_pos rfl]
      congr 1
      · exact rowCells_congr p fun i hi => ⟨rfl, (if_neg (by omega)).symm⟩
      · simp
set_option maxHeartbeats 2000000 in
theorem set_any (B g room n : Nat) (a : Nat → Int) (s : Nat → ByteArray) (v : Value) (x : Int) (t : ByteArray) (hn : n ≤ 1000) (w : World) (h : TAt w B g room n a s v) :
    Calls Try.prog 20 #[.pointer (some ⟨g, 0, none⟩), .int .i64 x, .string t] w (fun e w' => Kept (fun k => k = g ∨ v.ownBlock = some k) w w' ∧ ((∃ p, p < n ∧ a p = x ∧ e = .returned (.int .i64 0) ∧ TAt w' B g room n a (fun i => if i = p then t else s i) v) ∨ ((∀ i, i < n → a i ≠ x) ∧ e = .returned (.int .i64 8) ∧ TAt w' B g room n a s v))) := by
  have HF := Lib.hid (find_any g room n a s x (by omega) w h.at)
  have HT := Lib.hid h
  have n2 : (n : Int) ≤ 1000 := by omega
  clear h hn
  go_enter Try.func20, Try.ntmps20
  go_wp2_with fail
  refine HF.out.mono ?_
  rintro e w1 ⟨hb, p, b, hp, hq, rfl⟩
  have HK := Lib.hid (Kept.of_below (S := fun k => k = g ∨ v.ownBlock = some k) hb)
  have HB := Lib.hid hb
  have HP := Lib.hid hp
  have HQ := Lib.hid hq
  have HT1 : Hid (TAt w1 B g room n a s v) := HT.out.kept (S := fun _ => False) (Kept.of_below hb) (fun h => h) (fun _ _ h => h)
  clear hb hp hq
  cases b with
  | true =>
    have HPN := Lib.hid (HQ.out.1 rfl)
    have hpn := HPN.out.1
    have hp2 : (p : Int) < n := by omega
    obtain ⟨h1, h2, ⟨hl, h3⟩, h4, h5⟩ := HT1.out
    rcases h3 with ⟨rfl, rfl⟩ | ⟨gr, cap, cur, rfl, e2, e3, e4, e5, e6, e7⟩
    · omega
    have k1 : w1.cell? ⟨g, 1, none⟩ = some (.slice (some ⟨gr, 0, none⟩) n cap) := by simp [World.cell?, h2]
    have c2 := World.ownsRow.cellAt HT1.out.rows (p * 2 + 1) (by omega)
    rw [(rowCells_at a s n p hpn).2] at c2
    have jf : ∀ o, w1.frozen? ⟨gr, o, none⟩ = false := fun o => by simp [World.frozen?, e3]
    have jf1 := jf (p * 2 + 1)
    clear h1 h2 hl h4 h5 e2 e3 e4 e5 e6 e7 jf
    go_wp2_with fail
    go_ret
    have hgr : g ≠ gr := fun e => HT1.out.apart (by rw [e]; rfl)
    obtain ⟨r1, r2⟩ := World.ownsRow.stored HT1.out.rows (p * 2 + 1) (.string t)
    rw [rowCells_set a s p t n HPN.out.1] at r1
    refine ⟨HK.out.trans (Kept.of_grown r2 fun k hk => Or.inr hk), Or.inl ⟨p, HPN.out.1, HPN.out.2, rfl, HT1.out.lo, ?_, r1, HT1.out.apart, HT1.out.rises⟩⟩
    rw [Below.heap_setCell _ _ _ _ hgr]
    exact HT1.out.here
  | false =>
    have HNO : Hid (∀ i, i < n → a i ≠ x) := HP.out.no HT.out.rises (fun h => by have := HQ.out.2 h; cases this)
    go_wp2_with fail
    go_ret
    exact ⟨HK.out, Or.inr ⟨HNO.out, rfl, HT1.out⟩⟩
end Go.Proofs.Ythmbpoldjddheaa
