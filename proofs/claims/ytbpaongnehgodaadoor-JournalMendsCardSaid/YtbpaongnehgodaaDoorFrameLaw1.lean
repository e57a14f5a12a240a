/- Same; the page's example; FramePuts, FrameReads, walked. -/
import Derived.Test.YtbpaongnehgodaaDoorFrameRefScan
namespace Go.Proofs.YtbpaongnehgodaaDoor
open Go.ChangeShapes Go.WideShapes Go.ChangeAt Go.RowKit
set_option maxHeartbeats 1000000 in
theorem same_any (n cap cap' : Nat) (ao bo : Option Addr) (t : Nat → ByteArray) (hn : n ≤ 1000000) (w : World) (h1 : StrsAt w ao n (fun i => .string (t i))) (h2 : StrsAt w bo n (fun i => .string (t i))) :
    Calls Tryd.prog 11 #[.slice ao n cap, .slice bo n cap'] w (Ret (.bool true) w) := by
  have n2 : (n : Int) ≤ 1000000 := by omega
  have H1 := Lib.hid h1
  have H2 := Lib.hid h2
  clear h1 h2 hn
  go_enter Tryd.func11, Tryd.ntmps11
  go_wp2_with fail
  go_loopw [5] (fun iv wr => Hid (∃ q, wr = w.drewN q) ∧ ∃ i : Nat, i ≤ n ∧ iv = .int .i64 i) (fun iv _ => n - (intOf iv).toNat)
  case atStart => exact ⟨⟨0, rfl⟩, 0, Nat.zero_le _, rfl⟩
  case round =>
    obtain ⟨hq, i, hi, rfl⟩ := hrel
    have hi2 : (i : Int) ≤ n := by omega
    have HW : Hid (Below w.heap.size w wr) := by obtain ⟨q, e⟩ := hq.out; rw [e]; exact below_drewN (Below.refl _ _) _
    by_cases hlt : i < n
    · have hlt2 : (i : Int) < n := by omega
      obtain ⟨b, off, rfl, hb, hc⟩ := H1.out.below HW.out (by omega)
      obtain ⟨b', off', rfl, hb', hc'⟩ := H2.out.below HW.out (by omega)
      have c1 := hc i hlt
      have c2 := hc' i hlt
      simp only [] at c1 c2
      have HLT := Lib.hid hlt
      clear hc hc' hb hb' hlt hi
      generalize t i = x at *
      go_wp2_with fail
      go_quiet (fail)
      go_wp2_with fail
      go_roundw
      case rel => exact ⟨by obtain ⟨q, e⟩ := hq.out; exact ⟨_, by rw [e, World.drewN_drewN]⟩, i + 1, by have := HLT.out; omega, by go_num⟩
      case measure => have := HLT.out; simp [intOf]; omega
    · obtain rfl : i = n := by omega
      clear hlt hi
      go_wp2
      go_ret
      exact ⟨rfl, HW.out⟩
theorem texts_string (rs : List (List UInt8)) : texts rs = fun i => .string ⟨(rs.getD i []).toArray⟩ := rfl
theorem frameA : frameL [97] = [0, 0, 0, 1, 232, 183, 190, 67, 97] := by decide +kernel
theorem nextA : nextR (frameL [97] ++ [122]) = .ok 1 := nextR_frame [97] [122] (by decide)
/-- What Next tells of a frame, and what is behind it. -/
theorem nextV_frame (r R : List UInt8) : nextV ⟨(frameL r ++ R).toArray⟩ (.ok r.length) = .tuple #[.string ⟨r.toArray⟩, .string ⟨R.toArray⟩, .int .i64 0] := by
  have e1 : (frameL r ++ R).drop 8 = r ++ R := by
    unfold frameL be4
    simp
  have a : (⟨(frameL r ++ R).toArray⟩ : ByteArray).extract 8 (8 + r.length) = ⟨r.toArray⟩ := by
    apply bytes_inj
    rw [ext_toList]
    show ((frameL r ++ R).drop 8).take (8 + r.length - 8) = r
    rw [e1, show 8 + r.length - 8 = r.length by omega]
    simp
  have b : (⟨(frameL r ++ R).toArray⟩ : ByteArray).extract (8 + r.length) (ByteArray.size ⟨(frameL r ++ R).toArray⟩) = ⟨R.toArray⟩ := by
    apply bytes_inj
    rw [ext_end]
    show (frameL r ++ R).drop (8 + r.length) = R
    rw [← List.drop_drop, e1]
    simp
  simp only [nextV, a, b]
theorem next_frame (r R : List UInt8) (hr : r.length ≤ 1024) (hR : R.length ≤ 100000) (w : World) (ht : Tab w) :
    Calls Tryd.prog 43 #[.string ⟨(frameL r ++ R).toArray⟩] w (Ret (.tuple #[.string ⟨r.toArray⟩, .string ⟨R.toArray⟩, .int .i64 0]) w) := by
  have hz : ByteArray.size ⟨(frameL r ++ R).toArray⟩ = 8 + r.length + R.length := by
    show (frameL r ++ R).toArray.size = _
    simp [frameL_length]
  have h := next_any ⟨(frameL r ++ R).toArray⟩ (by rw [hz]; omega) w ht
  have e : (⟨(frameL r ++ R).toArray⟩ : ByteArray).data.toList = frameL r ++ R := rfl
  rw [e, nextR_frame r R hr, nextV_frame] at h
  exact h
end Go.Proofs.YtbpaongnehgodaaDoor
