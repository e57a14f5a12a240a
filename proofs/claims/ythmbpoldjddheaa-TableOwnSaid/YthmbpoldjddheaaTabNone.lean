/- Tables: no table. -/
import Derived.Test.YthmbpoldjddheaaTabClone
namespace Go.Proofs.Ythmbpoldjddheaa
open Go.ChangeShapes Go.WideShapes Go.ChangeAt Go.RowKit
set_option maxHeartbeats 1000000 in
theorem put_none (x : Int) (t : ByteArray) (w : World) :
    Calls Try.prog 19 #[.pointer none, .int .i64 x, .string t] w (RetS (.int .i64 8) w) := by
  go_enter Try.func19, Try.ntmps19
  go_wp2_with fail
  go_ret
  exact ⟨rfl, rfl⟩
set_option maxHeartbeats 1000000 in
theorem set_none (x : Int) (t : ByteArray) (w : World) :
    Calls Try.prog 20 #[.pointer none, .int .i64 x, .string t] w (RetS (.int .i64 8) w) := by
  have HF := Lib.hid (find_none x w)
  go_enter Try.func20, Try.ntmps20
  go_wp2_with fail
  refine HF.out.mono ?_
  rintro e w1 ⟨rfl, rfl⟩
  go_wp2_with fail
  go_ret
  exact ⟨rfl, rfl⟩
set_option maxHeartbeats 1000000 in
theorem get_none (x : Int) (w : World) :
    Calls Try.prog 16 #[.pointer none, .int .i64 x] w (RetS (.tuple #[.string ⟨#[]⟩, .int .i64 8]) w) := by
  have HF := Lib.hid (find_none x w)
  go_enter Try.func16, Try.ntmps16
  go_wp2_with fail
  refine HF.out.mono ?_
  rintro e w1 ⟨rfl, rfl⟩
  go_wp2_with fail
  go_ret2
  exact ⟨rfl, rfl⟩
set_option maxHeartbeats 1000000 in
theorem drop_none (x : Int) (w : World) :
    Calls Try.prog 17 #[.pointer none, .int .i64 x] w (RetS (.tuple #[.string ⟨#[]⟩, .int .i64 8]) w) := by
  have HF := Lib.hid (find_none x w)
  go_enter Try.func17, Try.ntmps17
  go_wp2_with fail
  refine HF.out.mono ?_
  rintro e w1 ⟨rfl, rfl⟩
  go_wp2_with fail
  go_ret2
  exact ⟨rfl, rfl⟩
set_option maxHeartbeats 1000000 in
theorem left_none (w : World) :
    Calls Try.prog 22 #[.pointer none] w (RetS (.int .i64 0) w) := by
  go_enter Try.func22, Try.ntmps22
  go_wp2_with fail
  go_ret
  exact ⟨rfl, rfl⟩
set_option maxHeartbeats 1000000 in
theorem rows_none (w : World) :
    Calls Try.prog 13 #[.pointer none] w (RetS (.slice none 0 0) w) := by
  go_enter Try.func13, Try.ntmps13
  go_wp2_with fail
  go_ret
  exact ⟨rfl, rfl⟩
set_option maxHeartbeats 1000000 in
theorem copy_none (w : World) :
    Calls Try.prog 14 #[.pointer none] w (RetS (.pointer none) w) := by
  go_enter Try.func14, Try.ntmps14
  go_wp2_with fail
  go_ret
  exact ⟨rfl, rfl⟩
set_option maxHeartbeats 1000000 in
theorem near_none (x : Int) (w : World) :
    Calls Try.prog 18 #[.pointer none, .int .i64 x] w (Ret (.tuple #[rowV 0 ⟨#[]⟩, .bool false]) w) := by
  have HF := Lib.hid (fun W => find_none x W)
  have HL := Lib.hid (fun W => len_none W)
  go_enter Try.func18, Try.ntmps18
  go_wp2_with fail
  refine (HF.out _).mono ?_
  rintro e w1 ⟨rfl, rfl⟩
  go_wp2_with fail
  refine (HL.out _).mono ?_
  rintro e w1 ⟨rfl, rfl⟩
  have f0 : (w.alloc (.cells #[.int .i64 0, .string ⟨#[]⟩] 39)).cell? ⟨w.heap.size, 0, none⟩ = some (.int .i64 0) := by rw [World.cell?_alloc_new]; rfl
  have f1 : (w.alloc (.cells #[.int .i64 0, .string ⟨#[]⟩] 39)).cell? ⟨w.heap.size, 1, none⟩ = some (.string ⟨#[]⟩) := by rw [World.cell?_alloc_new]; rfl
  go_wp2_with fail
  (try simp only [Exit.inBlock, Exit.then])
  refine bodyPost_ret (v := .tuple #[.agg #[.int .i64 0, .string ⟨#[]⟩], .bool false]) (by simp [results, Try.results18, go_sem, f0, f1]) rfl ?_
  exact ⟨rfl, by go_grown⟩
end Go.Proofs.Ythmbpoldjddheaa
