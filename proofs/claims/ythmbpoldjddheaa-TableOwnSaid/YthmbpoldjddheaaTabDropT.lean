/- Tables: Drop. -/
import Derived.Test.YthmbpoldjddheaaTabDelete
namespace Go.Proofs.Ythmbpoldjddheaa
open Go.ChangeShapes Go.WideShapes Go.ChangeAt Go.RowKit
theorem Rises.past {a : Nat → Int} {n : Nat} (h : Rises a n) (p : Nat) : Rises (fun t => a (past p t)) (n - 1) := fun i j hij hj => by
  show a (Go.Proofs.Ythmbpoldjddheaa.past p i) < a (Go.Proofs.Ythmbpoldjddheaa.past p j)
  unfold Go.Proofs.Ythmbpoldjddheaa.past
  split <;> split <;> exact h _ _ (by omega) (by omega)
set_option maxHeartbeats 1000000 in
theorem drop_any (B g room n : Nat) (a : Nat → Int) (s : Nat → ByteArray) (v : Value) (x : Int) (hn : n ≤ 1000) (w : World) (h : TAt w B g room n a s v) :
    Calls Try.prog 17 #[.pointer (some ⟨g, 0, none⟩), .int .i64 x] w (fun e w' => Kept (fun k => k = g ∨ v.ownBlock = some k) w w' ∧ ((∃ p v', p < n ∧ a p = x ∧ e = .returned (.tuple #[.string (s p), .int .i64 0]) ∧ TAt w' B g room (n - 1) (fun t => a (past p t)) (fun t => s (past p t)) v' ∧ v'.ownBlock = v.ownBlock) ∨ ((∀ i, i < n → a i ≠ x) ∧ e = .returned (.tuple #[.string ⟨#[]⟩, .int .i64 8]) ∧ TAt w' B g room n a s v))) := by
  have HF := Lib.hid (find_any g room n a s x (by omega) w h.at)
  have HT := Lib.hid h
  have n2 : (n : Int) ≤ 1000 := by omega
  have HN := Lib.hid hn
  clear h hn
  go_enter Try.func17, Try.ntmps17
  go_wp2_with fail
  refine HF.out.mono ?_
  rintro e w1 ⟨hb, p, b, hp, hq, rfl⟩
  have HK := Lib.hid (Kept.of_below (S := fun k => k = g ∨ v.ownBlock = some k) hb)
  have HP := Lib.hid hp
  have HQ := Lib.hid hq
  have HT1 : Hid (TAt w1 B g room n a s v) := HT.out.kept (S := fun _ => False) (Kept.of_below hb) (fun h => h) (fun _ _ h => h)
  clear hb hp hq HT
  cases b with
  | true =>
    have HPN := Lib.hid (HQ.out.1 rfl)
    have hpn := HPN.out.1
    have hp2 : (p : Int) < n := by omega
    obtain ⟨h1, h2, ⟨hl, h3⟩, h4, h5⟩ := HT1.out
    rcases h3 with ⟨rfl, rfl⟩ | ⟨gr, cap, cur, rfl, e2, e3, e4, e5, e6, e7⟩
    · omega
    have k1 : w1.cell? ⟨g, 1, none⟩ = some (.slice (some ⟨gr, 0, none⟩) n cap) := by simp [World.cell?, h2]
    have c2 := World.ownsRow.cellAt HT1.out.rows (p * 2 + 1) (by omega)
    rw [(rowCells_at a s n p hpn).2] at c2
    have HDEL := Lib.hid (delete_any B gr n cap p a s HN.out hpn w1 HT1.out.rows)
    have hgr : g ≠ gr := fun e => HT1.out.apart (by rw [e]; rfl)
    have hp1 : IntKind.i64.wrap ((p : Int) + 1) = (p : Int) + 1 := by rw [IntKind.wrap_i64]; omega
    clear h1 hl h4 h5 e2 e3 e4 e5 e6 e7
    go_wp2_with fail
    refine HDEL.out.mono ?_
    rintro e w2 ⟨rfl, ho2, hk2⟩
    have H2 : w2.heap[g]? = some (.cells #[.int .i64 (room : Nat), .slice (some ⟨gr, 0, none⟩) n cap] 90 (0, 0)) := (hk2.block g (lt_of_block h2) (fun e => hgr e)).trans h2
    have k2 : w2.cell? ⟨g, 1, none⟩ = some (.slice (some ⟨gr, 0, none⟩) n cap) := by simp [World.cell?, H2]
    have j2 : w2.frozen? ⟨g, 1, none⟩ = false := by simp [World.frozen?, H2]
    have HO2 := Lib.hid ho2
    have HK2 : Hid (Kept (fun k => k = g ∨ Value.ownBlock (.slice (some ⟨gr, 0, none⟩) n cap) = some k) w w2) := HK.out.trans ⟨hk2.os, hk2.tape, hk2.output, hk2.size, fun k hk hs => hk2.block k hk (fun e => hs (Or.inr (by rw [e]; rfl)))⟩
    have HH2 := Lib.hid H2
    clear ho2 hk2 h2 H2
    go_wp2
    go_ret2
    refine ⟨HK2.out.trans (Kept.of_grown (setCell_grown _ _ _) fun k hk => by injection hk with hk; exact Or.inl hk.symm), Or.inl ⟨p, .slice (some ⟨gr, 0, none⟩) (n - 1) cap, HPN.out.1, HPN.out.2, rfl, ⟨HT1.out.lo, ?_, ?_, ?_, HT1.out.rises.past p⟩, rfl⟩⟩
    · exact heap_setCell_same w2 g 1 _ _ _ HH2.out
    · exact ownsRow_setCell_other HO2.out (a := ⟨g, 1, none⟩) (fun e => hgr (Option.some.inj e).symm) _
    · exact fun e => hgr (Option.some.inj e).symm
  | false =>
    have HNO : Hid (∀ i, i < n → a i ≠ x) := HP.out.no HT1.out.rises (fun h => by have := HQ.out.2 h; cases this)
    go_wp2_with fail
    go_ret2
    exact ⟨HK.out, Or.inr ⟨HNO.out, rfl, HT1.out⟩⟩
end Go.Proofs.Ythmbpoldjddheaa
