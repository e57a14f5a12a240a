/- A byte that is changed changes the sum: the law's walk. -/
import Derived.Test.YtncbieaobadekaaDoorSumWalk
namespace Go.Proofs.YtncbieaobadekaaDoor
open Go.ChangeShapes Go.WideShapes Go.ChangeAt Go.RowKit
theorem xor8 (x : UInt8) (b : Nat) (hb : b < 256) : bits BinOp.xor IntKind.u8 (x.toNat : Int) (b : Int) = (((x ^^^ UInt8.ofNat b).toNat : Nat) : Int) := by
  have hx := x.toNat_lt
  have e1 : (BitVec.ofInt 8 (x.toNat : Int)).toNat = x.toNat := by rw [BitVec.toNat_ofInt]; omega
  have e2 : (BitVec.ofInt 8 (b : Int)).toNat = b := by rw [BitVec.toNat_ofInt]; omega
  have h : x.toNat ^^^ b < 256 := Nat.xor_lt_two_pow (n := 8) (by omega) hb
  show IntKind.u8.wrap ((BitVec.ofInt 8 (x.toNat : Int) ^^^ BitVec.ofInt 8 (b : Int)).toNat) = _
  rw [BitVec.toNat_xor, e1, e2, UInt8.toNat_xor, UInt8.toNat_ofNat', Nat.mod_eq_of_lt (by omega : b < 2 ^ 8)]
  simp [IntKind.wrap, IntKind.bits, IntKind.signed]
  omega
theorem xor8_ne (x : UInt8) (b : Nat) (hb : b < 256) (h0 : b ≠ 0) : x ^^^ UInt8.ofNat b ≠ x := by
  intro e
  have e2 := congrArg UInt8.toNat e
  rw [UInt8.toNat_xor, UInt8.toNat_ofNat', Nat.mod_eq_of_lt (by omega : b < 2 ^ 8)] at e2
  have : x.toNat ^^^ b = x.toNat ^^^ 0 := by rw [e2, Nat.xor_zero]
  exact h0 (xor_left_inj this)
theorem sum_parts (l m : List UInt8) (x y : UInt8) (h : x ≠ y) : sumN 0 (l ++ x :: m) ≠ sumN 0 (l ++ y :: m) := by
  intro e
  unfold sumN at e
  have a1 := regN_lt (l ++ x :: m) (show 4294967295 - 0 < 4294967296 by decide)
  have a2 := regN_lt (l ++ y :: m) (show 4294967295 - 0 < 4294967296 by decide)
  exact regN_turned l m x y (show 4294967295 - 0 < 4294967296 by decide) h (by omega)
theorem sum_set (l : List UInt8) (k : Nat) (hk : k < l.length) (x : UInt8) (hx : x ≠ l[k]) : sumN 0 (l.set k x) ≠ sumN 0 l := by
  have h1 : l.set k x = l.take k ++ x :: l.drop (k + 1) := by rw [List.set_eq_take_append_cons_drop, if_pos hk]
  have h2 : l.take k ++ l[k] :: l.drop (k + 1) = l := by rw [List.getElem_cons_drop, List.take_append_drop]
  have h3 := sum_parts (l.take k) (l.drop (k + 1)) x l[k] hx
  rwa [h2, ← h1] at h3
set_option maxHeartbeats 1000000 in
theorem turned_any (s : ByteArray) (a b : Nat) (hs : s.size ≤ 300) (h1 : 1 ≤ s.size) (ha : a < 65536) (hb : b < 256) (hb0 : b ≠ 0) (w : World) (ht : Tab w) :
    Calls Tryd.prog 4 #[.string s, .int .u16 (a : Nat), .int .u8 (b : Nat)] w (Ret (.bool true) w) := by
  have d1 : decide ((s.size : Int) < 1) = false := decide_eq_false (by omega)
  have d2 : decide ((300 : Int) < s.size) = false := decide_eq_false (by omega)
  have d3 : ((b : Int) == 0) = false := by rw [beq_eq_false_iff_ne]; omega
  obtain ⟨k, hk⟩ : ∃ k, k = a % s.size := ⟨_, rfl⟩
  have hkn : k < s.size := by rw [hk]; exact Nat.mod_lt _ (by omega)
  have kc := run_bytes_of_string (P := Tryd.prog) w 9 29 5 s Tryd.underlying9 Tryd.underlying29 Tryd.underlying5
  obtain ⟨c, hc⟩ : ∃ c, c = grownCap w s.size 0 5 := ⟨_, rfl⟩
  obtain ⟨W, hW⟩ : ∃ W, W = w.drew.alloc (.cells (bytesRow s (grownCap w s.size 0 5)) 5 ((bytesRow s (grownCap w s.size 0 5)).size, (bytesRow s (grownCap w s.size 0 5)).size + 1)) := ⟨_, rfl⟩
  rw [← hW, ← hc] at kc
  have hcells : ∀ j (hj : j < s.data.size), W.cell? ⟨w.heap.size, j, none⟩ = some (.int .u8 (s.data[j].toNat : Int)) := fun j hj => by
    rw [hW]
    show (World.alloc (World.drew w) _).cell? ⟨(World.drew w).heap.size, j, none⟩ = _
    rw [World.cell?_alloc_mark, bytesRow_at s _ j hj]
  have hfr : W.frozen? ⟨w.heap.size, k, none⟩ = false := by
    rw [hW]
    show (World.alloc (World.drew w) _).frozen? ⟨(World.drew w).heap.size, k, none⟩ = _
    rw [World.frozen?_alloc_mark]
    have : k < (bytesRow s (grownCap w s.size 0 5)).size := by
      have : s.size ≤ (bytesRow s (grownCap w s.size 0 5)).size := by
        unfold bytesRow
        simp only [Array.size_append, Array.size_map, Array.size_replicate]
        show s.data.size ≤ _
        omega
      omega
    rw [decide_eq_false (by omega), Bool.false_and]
  have hB : Below w.heap.size w W := by
    rw [hW]
    exact ((Below.refl w.heap.size w).drew).alloc (Nat.le_refl _) _
  obtain ⟨x, hx⟩ : ∃ x, x = s[k] ^^^ UInt8.ofNat b := ⟨_, rfl⟩
  have ex : bits BinOp.xor IntKind.u8 (s[k].toNat : Int) (b : Int) = ((x.toNat : Nat) : Int) := by rw [hx]; exact xor8 s[k] b hb
  have hne : x ≠ s[k] := by rw [hx]; exact xor8_ne s[k] b hb hb0
  have hlen : s.data.toList.length = s.size := by simp
  have hsum : sumN 0 (s.data.toList.set k x) ≠ sumN 0 s.data.toList := sum_set _ k (by rw [hlen]; exact hkn) x hne
  have hB2 : Below w.heap.size w (W.setCell ⟨w.heap.size, k, none⟩ (.int .u8 (x.toNat : Nat))) := hB.setCell (Nat.le_refl _) _
  have kb : (convert 29 9 (.slice (some ⟨w.heap.size, 0, none⟩) s.size c)).run Tryd.prog (W.setCell ⟨w.heap.size, k, none⟩ (.int .u8 (x.toNat : Nat))) = .ok (.string ⟨(s.data.toList.set k x).toArray⟩) (W.setCell ⟨w.heap.size, k, none⟩ (.int .u8 (x.toNat : Nat))) := by
    have h := run_convert_bytes_back (P := Tryd.prog) (W.setCell ⟨w.heap.size, k, none⟩ (.int .u8 (x.toNat : Nat))) 29 9 5 ⟨w.heap.size, 0, none⟩ c (s.data.toList.set k x) Tryd.underlying29 Tryd.underlying5 Tryd.underlying9 (fun j hj => by
      have hj2 : j < s.data.size := by simpa using hj
      have e0 : (Addr.mk w.heap.size 0 none).add j = ⟨w.heap.size, j, none⟩ := by unfold Addr.add; split <;> simp_all
      rw [e0]
      by_cases hjk : j = k
      · subst hjk
        rw [World.cell?_setCell_same _ _ _ (hcells j hj2)]
        simp
      · rw [World.cell?_setCell_other _ _ _ _ (by simp), hcells j hj2]
        simp [Ne.symm hjk])
    have e1 : (s.data.toList.set k x).length = s.size := by simp
    rw [e1] at h
    exact h
  have HA := Lib.hid (fun W h => awake_any W h)
  have HO1 := Lib.hid (fun W h => of_any ⟨(s.data.toList.set k x).toArray⟩ (by show Array.size _ ≤ _; simp; show s.size ≤ _; omega) W h)
  have HO2 := Lib.hid (fun W h => of_any s (by omega) W h)
  rw [show (ByteArray.mk (s.data.toList.set k x).toArray).data.toList = s.data.toList.set k x from rfl] at HO1
  obtain ⟨t, hT⟩ : ∃ t, t = ByteArray.mk (s.data.toList.set k x).toArray := ⟨_, rfl⟩
  obtain ⟨p, hp⟩ : ∃ p, p = sumN 0 (s.data.toList.set k x) := ⟨_, rfl⟩
  obtain ⟨q, hq⟩ : ∃ q, q = sumN 0 s.data.toList := ⟨_, rfl⟩
  rw [← hT] at HO1 kb
  rw [← hp] at HO1 hsum
  rw [← hq] at HO2 hsum
  have d4 : ((p : Int) == (q : Int)) = false := by rw [beq_eq_false_iff_ne]; omega
  have d5 : ((p : Int) != (q : Int)) = true := by rw [bne, d4]; rfl
  have HTB : Hid (Tab (W.setCell ⟨w.heap.size, k, none⟩ (.int .u8 (x.toNat : Nat)))) := ht.next hB2
  have HB2 := Lib.hid hB2
  have hcell : W.cell? ⟨w.heap.size, k, none⟩ = some (.int .u8 (s[k].toNat : Int)) := hcells k hkn
  have e1 : (a : Int) % (s.size : Int) = (k : Nat) := by rw [hk]; simp
  have b0 : (a : Int) ≤ 65535 := by omega
  have b1 : (1 : Int) ≤ s.size := by omega
  have b2 : (s.size : Int) ≤ 300 := by omega
  have b3 : (k : Int) < s.size := by omega
  clear ht hB2 hsum hp hq hT hlen hne hx hB hcells hW hc hk hb hb0 hs h1 ha
  go_enter Tryd.func4, Tryd.ntmps4
  go_wp2_with fail
  refine (HA.out _ HTB.out).mono ?_
  rintro e w1 ⟨rfl, rfl⟩
  go_wp2_with fail
  refine (HO1.out _ HTB.out).mono ?_
  rintro e w1 ⟨rfl, rfl⟩
  go_wp2_with fail
  refine (HO2.out _ HTB.out).mono ?_
  rintro e w1 ⟨rfl, rfl⟩
  go_wp2
  go_ret
  exact ⟨rfl, HB2.out⟩
end Go.Proofs.YtncbieaobadekaaDoor
