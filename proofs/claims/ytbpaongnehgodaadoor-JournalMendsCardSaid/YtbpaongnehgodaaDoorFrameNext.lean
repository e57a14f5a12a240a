/- Package frame: Next; the document's U32, Put, Next. -/
import Derived.Test.YtbpaongnehgodaaDoorFramePut
namespace Go.Proofs.YtbpaongnehgodaaDoor
open Go.ChangeShapes Go.WideShapes Go.ChangeAt Go.RowKit
theorem ext_toList (s : ByteArray) (a b : Nat) : (s.extract a b).data.toList = (s.data.toList.drop a).take (b - a) := by
  rw [ByteArray.data_extract]
  simp [List.take_drop]
theorem ext_end (s : ByteArray) (a : Nat) : (s.extract a s.size).data.toList = s.data.toList.drop a := by
  rw [ext_toList, List.take_of_length_le]
  rw [List.length_drop]
  have : s.data.toList.length = s.size := by simp
  omega
theorem len_eq (s : ByteArray) : s.data.toList.length = s.size := by simp
theorem ext_le (s : ByteArray) (a b : Nat) : (s.extract a b).size ≤ s.size := by
  rw [ByteArray.size_extract]; omega
/-- What Next tells of the bytes. -/
def nextV (s : ByteArray) : NextA → Value
  | .err e => .tuple #[.string ⟨#[]⟩, .string ⟨#[]⟩, .int .i64 e]
  | .ok n => .tuple #[.string (s.extract 8 (8 + n)), .string (s.extract (8 + n) s.size), .int .i64 0]
set_option maxHeartbeats 1000000 in
theorem next_any (s : ByteArray) (hs : s.size ≤ 1000000) (w : World) (ht : Tab w) :
    Calls Tryd.prog 43 #[.string s] w (Ret (nextV s (nextR s.data.toList)) w) := by
  have HL := Lib.hid (least_any s hs w)
  have hl := len_eq s
  have hlt := least_lt s.data.toList
  have hs2 : (s.size : Int) ≤ 1000000 := by omega
  unfold nextR
  rw [hl]
  obtain ⟨n, hn⟩ : ∃ n, least s.data.toList = n := ⟨_, rfl⟩
  rw [hn] at HL hlt ⊢
  by_cases h1 : 1024 < n
  · rw [if_pos h1]
    have d1 := decide_eq_true h1
    have d2 : decide (1024 < (n : Int)) = true := decide_eq_true (by omega)
    clear h1 hn hs hlt hl ht
    unfold nextV
    go_enter Tryd.func43, Tryd.ntmps43
    go_wp2_with fail
    refine HL.out.mono ?_
    rintro e w1 ⟨rfl, rfl⟩
    go_wp2
    go_ret3
    exact ⟨rfl, Below.refl _ _⟩
  · rw [if_neg h1]
    have d1 := decide_eq_false h1
    have d2 : decide (1024 < (n : Int)) = false := decide_eq_false (by omega)
    have n1 : (n : Int) ≤ 1024 := by omega
    by_cases h2 : s.size < 8 + n
    · rw [if_pos h2]
      have d3 : decide ((s.size : Int) < 8 + (n : Int)) = true := decide_eq_true (by omega)
      clear h1 hn hs hlt hl ht
      unfold nextV
      go_enter Tryd.func43, Tryd.ntmps43
      go_wp2_with fail
      refine HL.out.mono ?_
      rintro e w1 ⟨rfl, rfl⟩
      go_wp2
      go_ret3
      exact ⟨rfl, Below.refl _ _⟩
    · rw [if_neg h2]
      obtain ⟨k, hk⟩ : ∃ k : Nat, 8 + n = k := ⟨_, rfl⟩
      have ek : 8 + (n : Int) = (k : Int) := by omega
      have d3 : decide ((s.size : Int) < (k : Int)) = false := decide_eq_false (by omega)
      have d3' : decide (s.size < k) = false := decide_eq_false (by omega)
      have HOF : Hid (∀ q, Calls Tryd.prog 33 #[.string (s.extract 8 k)] (w.drewN q) (fun e w' => e = .returned (.int .u32 (sumN 0 ((s.data.toList.drop 8).take n) : Nat)) ∧ w' = w.drewN q)) := fun q => by
        have h := of_any (s.extract 8 k) (Nat.le_trans (ext_le _ _ _) hs) (w.drewN q) (by exact ht)
        rw [ext_toList, show k - 8 = n by omega] at h
        exact h.mono fun _ _ ⟨h1, h2⟩ => ⟨h1, h2.symm⟩
      have HLE : Hid (∀ q, Calls Tryd.prog 46 #[.string (s.extract 4 s.size)] (w.drewN q) (fun e w' => e = .returned (.int .u32 (least (s.data.toList.drop 4) : Nat)) ∧ w' = w.drewN q)) := fun q => by
        have h := least_any (s.extract 4 s.size) (Nat.le_trans (ext_le _ _ _) hs) (w.drewN q)
        rw [ext_end] at h
        exact h.mono fun _ _ ⟨h1, h2⟩ => ⟨h1, h2.symm⟩
      have k4 : (4 : Int) ≤ s.size := by omega
      have k8 : (k : Int) ≤ s.size := by omega
      have k9 : k ≤ s.size := by omega
      have k7 : (8 : Int) ≤ k := by omega
      have k6 : 8 ≤ k := by omega
      by_cases h3 : sumN 0 ((s.data.toList.drop 8).take n) = least (s.data.toList.drop 4)
      · rw [if_neg (by simpa using h3)]
        rw [h3] at HOF
        clear h1 hn hs hlt hl ht h2 h3
        unfold nextV
        (try simp only [])
        (try rw [hk])
        clear hk
        generalize least (s.data.toList.drop 4) = x at *
        go_enter Tryd.func43, Tryd.ntmps43
        go_wp2_with fail
        refine HL.out.mono ?_
        rintro e w1 ⟨rfl, rfl⟩
        go_wp2_with fail
        go_quiet ((first | (go_at_call 33; exact Calls.quiet_of_same (HOF.out _)) | (go_at_call 46; exact Calls.quiet_of_same (HLE.out _))))
        go_wp2_with fail
        go_quiet (fail)
        go_wp2
        go_ret3
        exact ⟨rfl, below_drewN (below_drewN (Below.refl _ _) _) _⟩
      · rw [if_pos h3]
        have d5 : ((sumN 0 ((s.data.toList.drop 8).take n) : Int) == (least (s.data.toList.drop 4) : Int)) = false := by rw [beq_eq_false_iff_ne]; omega
        clear h1 hn hs hlt hl ht h2 h3
        unfold nextV
        (try simp only [])
        (try rw [hk])
        clear hk
        generalize least (s.data.toList.drop 4) = x at *
        generalize sumN 0 ((s.data.toList.drop 8).take n) = y at *
        have d6 : ((y : Int) != (x : Int)) = true := by simp [bne, d5]
        go_enter Tryd.func43, Tryd.ntmps43
        go_wp2_with fail
        refine HL.out.mono ?_
        rintro e w1 ⟨rfl, rfl⟩
        go_wp2_with fail
        go_quiet ((first | (go_at_call 33; exact Calls.quiet_of_same (HOF.out _)) | (go_at_call 46; exact Calls.quiet_of_same (HLE.out _))))
        go_wp2
        go_ret3
        exact ⟨rfl, below_drewN (Below.refl _ _) _⟩
end Go.Proofs.YtbpaongnehgodaaDoor
