/- Tables: the bond of a table with the document's; same. -/
import Derived.Test.YthmbpoldjddheaaTabRows
namespace Go.Proofs.Ythmbpoldjddheaa
open Go.ChangeShapes Go.WideShapes Go.ChangeAt Go.RowKit
/-- A table's rows are the document's, by rising numbers. -/
structure Bond (n : Nat) (a : Nat → Int) (s : Nat → ByteArray) (b : Nat → Int) (u : Nat → ByteArray) : Prop where
  rises : Rises a n
  dist : ∀ i j, i < j → j < n → b i ≠ b j
  back : ∀ i, i < n → ∃ j, j < n ∧ b i = a j ∧ u i = s j
  fwd : ∀ j, j < n → ∃ i, i < n ∧ a j = b i ∧ s j = u i
/-- What rises among as many is it. -/
theorem rises_same {a c : Nat → Int} {n : Nat} (ha : Rises a n) (hc : Rises c n) (h : ∀ i, i < n → ∃ j, j < n ∧ c i = a j) : ∀ i, i < n → c i = a i := by
  have inj : ∀ i j, i < n → j < n → a i < a j → i < j := fun i j hi hj hlt => by
    rcases Nat.lt_trichotomy i j with l | l | l
    · exact l
    · rw [l] at hlt; omega
    · have := ha j i l hi; omega
  have low : ∀ i, i < n → ∀ j, j < n → c i = a j → i ≤ j := by
    intro i
    induction i with
    | zero => intro _ j _ _; omega
    | succ i ih =>
      intro hi j hj e
      obtain ⟨j', hj', e'⟩ := h i (by omega)
      have h1 := ih (by omega) j' hj' e'
      have h2 := hc i (i + 1) (by omega) hi
      rw [e, e'] at h2
      have := inj j' j hj' hj h2
      omega
  have high : ∀ k, ∀ i, i < n → n - 1 - i = k → ∀ j, j < n → c i = a j → j ≤ i := by
    intro k
    induction k with
    | zero => intro i hi hk j hj _; omega
    | succ k ih =>
      intro i hi hk j hj e
      obtain ⟨j', hj', e'⟩ := h (i + 1) (by omega)
      have h1 := ih (i + 1) (by omega) (by omega) j' hj' e'
      have h2 := hc i (i + 1) (by omega) (by omega)
      rw [e, e'] at h2
      have := inj j j' hj hj' h2
      omega
  intro i hi
  obtain ⟨j, hj, e⟩ := h i hi
  have h1 := low i hi j hj e
  have h2 := high _ i hi rfl j hj e
  rw [e, show j = i by omega]
theorem Rises.inj {a : Nat → Int} {n i j : Nat} (h : Rises a n) (hi : i < n) (hj : j < n) (e : a i = a j) : i = j := by
  rcases Nat.lt_trichotomy i j with l | l | l
  · have := h i j l hj; omega
  · exact l
  · have := h j i l hi; omega
theorem Bond.sorted {n : Nat} {a : Nat → Int} {s : Nat → ByteArray} {b : Nat → Int} {u : Nat → ByteArray} (h : Bond n a s b u) {c : Nat → Int} {d : Nat → ByteArray} (hc : Rises c n) (hf : ∀ i, i < n → ∃ j, j < n ∧ c i = b j ∧ d i = u j) : ∀ i, i < n → c i = a i ∧ d i = s i := by
  have h1 := rises_same h.rises hc (fun i hi => by
    obtain ⟨j, hj, e, _⟩ := hf i hi
    obtain ⟨j', hj', e', _⟩ := h.back j hj
    exact ⟨j', hj', by rw [e, e']⟩)
  intro i hi
  refine ⟨h1 i hi, ?_⟩
  obtain ⟨j, hj, e, e2⟩ := hf i hi
  obtain ⟨j', hj', e', e3⟩ := h.back j hj
  have : j' = i := h.rises.inj hj' hi (by rw [← e', ← e, h1 i hi])
  rw [e2, e3, this]
theorem OwnsR.under {w w' : World} {B T n : Nat} {v : Value} {a : Nat → Int} {s : Nat → ByteArray} (h : OwnsR w B T v n a s) (hb : Below w.heap.size w w') : OwnsR w' B T v n a s := by
  refine World.ownsRow.kept (row := none) h ⟨hb.os, hb.tape, hb.output, hb.size, fun k hk _ => hb.block k hk⟩ ?_
  cases hv : v.ownBlock with
  | none => exact Or.inl rfl
  | some g => exact Or.inr (by simp)
set_option maxHeartbeats 2000000 in
set_option maxRecDepth 100000 in
theorem same_any (B g h room n : Nat) (a : Nat → Int) (s : Nat → ByteArray) (b : Nat → Int) (u : Nat → ByteArray) (v v2 : Value) (hn : n ≤ 1000) (hr : room ≤ 9223372036854775807) (hnr : n ≤ room) (w : World) (ht : TAt w B g room n a s v) (hq : QAt w B h room n b u v2) (hb : Bond n a s b u) :
    Calls Try.prog 15 #[.pointer (some ⟨g, 0, none⟩), .pointer (some ⟨h, 0, none⟩)] w (Ret (.bool true) w) := by
  have HR := Lib.hid (rows_any B g room n a s v hn w ht)
  have HQR := Lib.hid (fun W hW => refrows_any h room n b u hn hb.dist W hW)
  have HT := Lib.hid ht.at
  have HQ := Lib.hid hq.at
  have HB := Lib.hid hb
  have HLEN := Lib.hid (fun W hW => len_any g room n a s W hW)
  have HLEFT := Lib.hid (fun W hW => left_any g room n a s hr hnr W hW)
  have n2 : (n : Int) ≤ 1000 := by omega
  have hr2 : (room : Int) ≤ 9223372036854775807 := by omega
  have hnr2 : (n : Int) ≤ room := by omega
  have ew : IntKind.i64.wrap ((room : Int) - (n : Int)) = ((room - n : Nat) : Int) := by rw [IntKind.wrap_i64]; omega
  have HTB : Hid (∀ W, Below w.heap.size w W → TabAt W g room n a s) := fun W hW => ht.at.below hW
  clear ht hq hb hn hr hnr
  go_enter Try.func15, Try.ntmps15
  go_wp2_with fail
  refine HR.out.mono ?_
  rintro e w1 ⟨b1, v1, rfl, o1⟩
  have B1 := Lib.hid b1
  have O1 := Lib.hid o1
  clear b1 o1
  go_wp2_with fail
  refine (HQR.out _ (HQ.out.below B1.out)).mono ?_
  rintro e w2 ⟨b2, v3, c, d, rfl, o2, hc, hf⟩
  have HS := Lib.hid (HB.out.sorted hc hf)
  have B2 : Hid (Below w.heap.size w w2) := B1.out.trans (b2.mono B1.out.size)
  have O2 := Lib.hid o2
  have O3 := Lib.hid (O1.out.under b2)
  have O4 : Hid (OwnsR w2 w1.heap.size 37 v3 n a s) := O2.out.congr HS.out
  clear b2 o2 hc hf HR HQR O1 O2
  obtain ⟨ao1, cap1, rfl, r1⟩ := O3.out.view
  obtain ⟨ao2, cap2, rfl, r2⟩ := O4.out.view
  have R1 := Lib.hid r1
  have R2 := Lib.hid r2
  have qr := (HQ.out.below B2.out).room
  have HLEN2 : Hid (∀ q, Calls Try.prog 21 #[.pointer (some ⟨g, 0, none⟩)] (w2.drewN q) (fun e w' => e = .returned (.int .i64 (n : Nat)) ∧ w' = w2.drewN q)) := fun q => (HLEN.out (w2.drewN q) (HTB.out _ (below_drewN B2.out q))).mono fun _ _ ⟨x1, x2⟩ => ⟨x1, x2.symm⟩
  have HLEFT2 : Hid (∀ q, Calls Try.prog 22 #[.pointer (some ⟨g, 0, none⟩)] (w2.drewN q) (fun e w' => e = .returned (.int .i64 ((room - n : Nat) : Int)) ∧ ∃ m, w' = (w2.drewN q).drewN m)) := fun q => HLEFT.out (w2.drewN q) (HTB.out _ (below_drewN B2.out q))
  clear r1 r2
  go_wp2_with fail
  go_quiet ((first | (go_at_call 21; exact Calls.quiet_of_same (HLEN2.out _)) | (go_at_call 22; exact Calls.quiet_of (HLEFT2.out _))))
  go_wp2_with fail
  generalize hw5 : World.drewN w2 _ = w5
  have B5 : Hid (Below w2.heap.size w2 w5) := by rw [← hw5]; exact below_drewN (Below.refl _ _) _
  clear hw5
  go_loopw [7] (fun iv wr => Hid (Below w2.heap.size w2 wr) ∧ ∃ i : Nat, i ≤ n ∧ iv = .int .i64 i) (fun iv _ => n - (intOf iv).toNat)
  case atStart => exact ⟨B5, 0, Nat.zero_le _, rfl⟩
  case round =>
    obtain ⟨hbw, i, hi, rfl⟩ := hrel
    have hi2 : (i : Int) ≤ n := by omega
    by_cases hlt : i < n
    · have hlt2 : (i : Int) < n := by omega
      obtain ⟨g1, o1, rfl, _, hc1⟩ := (R1.out.below hbw.out) (by omega)
      obtain ⟨g2, o2, rfl, _, hc2⟩ := (R2.out.below hbw.out) (by omega)
      obtain ⟨x1, x2⟩ := hc1 i hlt
      obtain ⟨x3, x4⟩ := hc2 i hlt
      have HLT := Lib.hid hlt
      clear hc1 hc2 hlt hi
      generalize a i = y at *
      generalize s i = z at *
      go_wp2_with fail
      go_quiet (fail)
      go_wp2_with fail
      go_roundw
      case rel => exact ⟨below_drewN hbw.out _, i + 1, by have := HLT.out; omega, by go_num⟩
      case measure => have := HLT.out; simp [intOf]; omega
    · obtain rfl : i = n := by omega
      clear hlt hi
      go_wp2_with fail
      go_ret
      exact ⟨rfl, B2.out.trans (hbw.out.mono B2.out.size)⟩
end Go.Proofs.Ythmbpoldjddheaa
