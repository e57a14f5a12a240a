/- journal.idle, whole; Read; cut. -/
import Derived.Test.YtbpaongnehgodaaDoorJoIdle
namespace Go.Proofs.YtbpaongnehgodaaDoor
open Go.ChangeShapes Go.WideShapes Go.ChangeAt Go.RowKit
theorem jboxes2 (w : World) (a b : Obj) : ((w.alloc a).alloc b).heap[w.heap.size]? = some a ∧ ((w.alloc a).alloc b).heap[w.heap.size + 1]? = some b ∧ Below w.heap.size w ((w.alloc a).alloc b) := by
  refine ⟨(Below.heap_alloc _ _ _ (by simp)).trans (heap_alloc_new w a), ?_, ((Below.refl _ _).alloc (Nat.le_refl _) _).alloc (by simp) _⟩
  have := heap_alloc_new (w.alloc a) b
  rwa [World.size_alloc] at this
theorem three_at {w : World} {g : Nat} {a b c : Value} {T : Nat} (h : w.heap[g]? = some (.cells #[a, b, c] T (0, 0))) : w.cell? ⟨g, 0, none⟩ = some a ∧ w.cell? ⟨g, 1, none⟩ = some b ∧ w.cell? ⟨g, 2, none⟩ = some c := by simp [World.cell?, h]
set_option maxHeartbeats 4000000 in
theorem idle_any (s t : ByteArray) (f : Int) (d : Bool) (h : Small s t) (w : World) : Calls Tryd.prog 24 #[.agg #[.string s, .string t, .int .i64 f, .bool d]] w (Ret (.int .i64 (idleE t f d)) w) := by
  have HF := Lib.hid (fun W (hi : IdI w w.heap.size (w.heap.size + 1) s t f d #[.func (.func 39) #[] #[.pointer (some ⟨w.heap.size, 0, none⟩)], .func (.func 40) #[] #[.pointer (some ⟨w.heap.size, 0, none⟩)], .func (.func 41) #[] #[.pointer (some ⟨w.heap.size, 0, none⟩)]] 44 W) =>
    first3_any _ _ _ _ _ _ _ _ _ _ (idle1_ok w w.heap.size (w.heap.size + 1) s t f d h _ 44) (idle2_ok w w.heap.size (w.heap.size + 1) s t f d _ 44) (idle3_ok w w.heap.size (w.heap.size + 1) s t f d _ 44) (w.heap.size + 1) 3 W hi (fun W' hi' => three_at hi'.2.1))
  have HX := Lib.hid (jboxes2 w (.cells #[.string s, .string t, .int .i64 f, .bool d] 26) (.cells #[.func (.func 39) #[] #[.pointer (some ⟨w.heap.size, 0, none⟩)], .func (.func 40) #[] #[.pointer (some ⟨w.heap.size, 0, none⟩)], .func (.func 41) #[] #[.pointer (some ⟨w.heap.size, 0, none⟩)]] 44))
  have eI : first3 (dchk f) (if d = true then 16 else 0) (if some? t = true then 3 else 0) = idleE t f d := rfl
  rw [eI] at HF
  obtain ⟨x, hx⟩ : ∃ x, idleE t f d = x := ⟨_, rfl⟩
  rw [hx] at HF ⊢
  clear h hx eI
  go_enter Tryd.func24, Tryd.ntmps24
  go_wp2_with fail
  refine (HF.out _ ⟨HX.out.1, HX.out.2.1, HX.out.2.2⟩).mono ?_
  rintro en w1 ⟨rfl, hi⟩
  have HB := Lib.hid hi.2.2
  clear hi
  go_wp2_with fail
  go_ret
  exact ⟨rfl, HB.out⟩
/-- What Read tells. -/
def ReadsJ (w : World) (A : List (List UInt8) × Nat × Int) (e : Ending) (w' : World) : Prop :=
  Below w.heap.size w w' ∧ ∃ ao cap, e = .returned (.tuple #[.slice ao A.1.length cap, .int .i64 (A.2.1 : Nat)]) ∧ StrsAt w' ao A.1.length (texts A.1) ∧ ∀ a, ao = some a → w.heap.size ≤ a.block
set_option maxHeartbeats 4000000 in
theorem jread_any (s t : ByteArray) (f : Int) (d : Bool) (hs : s.size ≤ 900000) (w : World) (ht : Tab w) : Calls Tryd.prog 12 #[.agg #[.string s, .string t, .int .i64 f, .bool d]] w (ReadsJ w (scanR s.size s.data.toList)) := by
  have HS := Lib.hid (fun W (h : Tab W) => scan_any s hs W h)
  have HT := Lib.hid (Tab.below ht (((Below.refl w.heap.size w).alloc (Nat.le_refl _) (.cells #[.string s, .string t, .int .i64 f, .bool d] 26))) ht.lt)
  obtain ⟨A, hA⟩ : ∃ A, scanR s.size s.data.toList = A := ⟨_, rfl⟩
  rw [hA] at HS ⊢
  clear hA ht hs
  go_enter Tryd.func12, Tryd.ntmps12
  go_wp2_with fail
  refine (HS.out _ HT.out).mono ?_
  rintro en w1 ⟨b1, ao, cap, rfl, hst, hlo⟩
  have HB := Lib.hid (below_box b1)
  have HST := Lib.hid hst
  have HLO : Hid (∀ a, ao = some a → w.heap.size ≤ a.block) := fun a ha => by have := hlo a ha; simp at this; omega
  clear b1 hst hlo
  go_wp2_with fail
  go_ret2
  exact ⟨HB.out, ao, cap, rfl, HST.out, HLO.out⟩
/-- What cut answers. -/
def cutA (s : ByteArray) (f : Int) (d : Bool) (n : Nat) : Value := if n = s.size then .tuple #[.agg #[.string s, .string ⟨#[]⟩, .int .i64 f, .bool d], .int .i64 0] else opV s ⟨#[]⟩ f d 0 s ⟨#[]⟩ (front s n) ⟨#[]⟩
set_option maxHeartbeats 4000000 in
theorem jcut_any (s : ByteArray) (f : Int) (d : Bool) (h : s.size ≤ 4000) (hf : -9223372036854775808 ≤ f ∧ f ≤ 9223372036854775807) (n : Nat) (hn : n ≤ s.size) (w : World) :
    Calls Tryd.prog 25 #[.agg #[.string s, .string ⟨#[]⟩, .int .i64 f, .bool d], .int .i64 (n : Nat)] w (Ret (cutA s f d n) w) := by
  have hn2 : (n : Int) ≤ s.size := by omega
  have n1 : (s.size : Int) ≤ 4000 := by omega
  have HX := Lib.hid (jboxes2 w (.cells #[.string s, .string ⟨#[]⟩, .int .i64 f, .bool d] 26) (.cells #[.string ⟨#[]⟩, .string ⟨#[]⟩, .int .i64 0, .bool false] 26))
  by_cases he : n = s.size
  · have e1 : cutA s f d n = .tuple #[.agg #[.string s, .string ⟨#[]⟩, .int .i64 f, .bool d], .int .i64 0] := if_pos he
    rw [e1]
    subst he
    clear e1
    go_enter Tryd.func25, Tryd.ntmps25
    go_wp2_with fail
    refine bodyPost_ret (v := .tuple #[.agg #[.string s, .string ⟨#[]⟩, .int .i64 f, .bool d], .int .i64 0]) (by simp [results, Tryd.results25, go_sem]) rfl ?_
    exact ⟨rfl, by go_grown⟩
  · have e1 : cutA s f d n = opV s ⟨#[]⟩ f d 0 s ⟨#[]⟩ (front s n) ⟨#[]⟩ := if_neg he
    rw [e1]
    have d1 : ((n : Int) == (s.size : Int)) = false := by rw [beq_eq_false_iff_ne]; omega
    have HC := Lib.hid (fun W => cut_k s ⟨#[]⟩ f d ⟨h, by decide⟩ hf n rfl hn W)
    obtain ⟨S, T, F, D, E, hE⟩ := opV_form s ⟨#[]⟩ f d 0 s ⟨#[]⟩ (front s n) ⟨#[]⟩
    rw [hE] at HC ⊢
    clear e1 he hE hn h hf
    go_enter Tryd.func25, Tryd.ntmps25
    go_wp2_with fail
    refine (HC.out _).mono ?_
    rintro en w1 ⟨rfl, b1⟩
    have HZ := Lib.hid ((b1.block _ (by simp)).trans HX.out.2.1)
    have HB := Lib.hid (HX.out.2.2.trans (b1.mono (by simp; omega)))
    obtain ⟨z0, z1, z2, z3⟩ := four_read HZ.out
    have f0 := four_free HZ.out 0
    have f1 := four_free HZ.out 1
    have f2 := four_free HZ.out 2
    have f3 := four_free HZ.out 3
    clear b1
    go_wp2_with fail
    obtain ⟨⟨y0, y1⟩, y2, y3⟩ := four_cells HZ.out (.string S) (.string T) (.int .i64 F) (.bool D)
    refine bodyPost_ret (v := .tuple #[.agg #[.string S, .string T, .int .i64 F, .bool D], .int .i64 E]) (by simp [results, Tryd.results25, go_sem, y0, y1, y2, y3]) rfl ?_
    exact ⟨rfl, below_four HB.out (Nat.le_succ _) _ _ _ _⟩
end Go.Proofs.YtbpaongnehgodaaDoor
