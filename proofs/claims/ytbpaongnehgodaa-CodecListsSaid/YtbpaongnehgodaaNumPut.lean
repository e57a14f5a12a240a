/- Package num: Put, Text; the document's All, Text; the page's examples. -/
import Derived.Test.YtbpaongnehgodaaNumAll
namespace Go.Proofs.Ytbpaongnehgodaa
open Go.ChangeShapes Go.WideShapes Go.ChangeAt Go.RowKit
theorem put_any (n : Int) (hn : -9223372036854775808 ≤ n ∧ n ≤ 9223372036854775807) (w : World) :
    Calls Try.prog 36 #[.int .i64 n] w (Ret (txt (encN (codeN n))) w) := by
  have HA := Lib.hid (all_any (fun _ => n) 1 1 (some ⟨w.heap.size, 0, none⟩) (by decide) (fun _ _ => hn) (w.alloc (.cells #[.int .i64 n] 2)) (fun _ => ⟨_, _, rfl, by simp, fun i hi => by
    obtain rfl : i = 0 := by omega
    rw [World.cell?_alloc_new]
    rfl⟩))
  have e : encs (fun _ => n) 1 = encN (codeN n) := rfl
  rw [e] at HA
  clear hn e
  go_enter Try.func36, Try.ntmps36
  go_wp2_with fail
  refine HA.out.mono ?_
  rintro e w1 ⟨rfl, h1⟩
  unfold txt
  have HB : Hid (Below w.heap.size w w1) := ((Below.refl w.heap.size w).alloc (Nat.le_refl _) _).trans (h1.mono (by simp))
  clear h1
  go_wp2
  go_ret
  exact ⟨rfl, HB.out⟩
theorem lenI {s : ByteArray} (h : s.size ≤ 1000000) : -9223372036854775808 ≤ (s.size : Int) ∧ (s.size : Int) ≤ 9223372036854775807 := by omega
/-- The bytes of a text. -/
def txtL (l : List UInt8) : List UInt8 := encN (codeN (l.length : Int)) ++ l
end Go.Proofs.Ytbpaongnehgodaa
