/- The codec's calls, told plainly; the page's examples. -/
import Derived.Test.YtbpaongnehgodaaCoLink
import Derived.Test.YtbpaongnehgodaaCoWords
namespace Go.Proofs.Ytbpaongnehgodaa
open Go.ChangeShapes Go.WideShapes Go.ChangeAt Go.RowKit
theorem rright_any (c : Cm) (w : World) : Calls Try.prog 9 #[cmv c] w (Ret (.bool (rightV c)) w) := by
  cases hk : isK c.k with
  | true =>
    have e : rightV c = cmEq (restC c (lets c.k) (lets c.k).length) zeroC := by unfold rightV; rw [hk]; rfl
    rw [e]
    exact right_in c (lets c.k) (lets_len _) (lets_some hk) (rhas_any c.k) w
  | false =>
    have e : rightV c = false := by unfold rightV; rw [hk]; rfl
    rw [e]
    exact right_out c (fun W => by have := rhas_any c.k W; rwa [lets_none hk] at this) w
theorem rput_any (c : Cm) (hc : c.In) (w : World) : Calls Try.prog 13 #[cmv c] w (Ret (txt (bytesC c)) w) :=
  rput_in c hc (lets c.k) (lets_len _) (rhas_any c.k) w
/-- What Put answers. -/
def putA (c : Cm) : Value := if rightV c = true then .tuple #[txt (bytesC c), .int .i64 0] else .tuple #[.string ⟨#[]⟩, .int .i64 3]
theorem cput_top (c : Cm) (hc : c.In) (w : World) : Calls Try.prog 8 #[cmv c] w (Ret (putA c) w) := by
  have h := cput_any c hc w
  have e : cputV c = putA c := by
    unfold cputV putA
    rw [chk_right]
    by_cases hr : rightV c = true
    · rw [if_pos hr, if_pos rfl, if_pos hr]
      unfold bytesC
      have hk : isK c.k = true := (right_self c hr).1
      rw [puts_nums c hk]
    · rw [if_neg hr, if_neg (by decide), if_neg hr]
  rwa [e] at h
theorem check_top (c : Cm) (hc : c.In) (w : World) : Calls Try.prog 11 #[cmv c] w (Ret (.int .i64 (if rightV c = true then 0 else 3)) w) := by
  have h := check_any c hc w
  rwa [chk_right] at h
/-- What the document's Read leaves. -/
def rrC (s : ByteArray) (e : Int) : Cm × (ByteArray × Int) := (if (readC s e).2.2 = 0 then (readC s e).1 else zeroC, ((readC s e).2.1.1, (readC s e).2.2))
theorem rread_any (g : Nat) (s : ByteArray) (e : Int) (hs : s.size ≤ 1000000) (w : World) (h : RAt 60 w g s e) :
    Calls Try.prog 34 #[ptr g] w (RRd g w (rrC s e).1 (rrC s e).2) := by
  by_cases he : (rd s e).2.2 = 0
  · cases hk : isK (rd s e).1 with
    | true =>
      have := rread_full g s e hs w h he (lets (rd s e).1) (lets_len _) (lets_some hk) (rhas_any _) _ rfl
      have e1 : readC s e = ((rdJ (lets (rd s e).1) (⟨(rd s e).1, 0, 0, 0, 0, 0, 0⟩, (rd s e).2) (lets (rd s e).1).length).1, (rdJ (lets (rd s e).1) (⟨(rd s e).1, 0, 0, 0, 0, 0, 0⟩, (rd s e).2) (lets (rd s e).1).length).2, (rdJ (lets (rd s e).1) (⟨(rd s e).1, 0, 0, 0, 0, 0, 0⟩, (rd s e).2) (lets (rd s e).1).length).2.2) := by
        unfold readC
        rw [if_neg (by simp [he]), if_pos hk]
        rw [show ((rd s e).2 : ByteArray × Int) = ((rd s e).2.1, (rd s e).2.2) from rfl, read_rdJ _ _ _ hk]
      unfold rrC
      rw [e1]
      exact this
    | false =>
      have := rread_none g s e hs w h he (fun W => by have := rhas_any (rd s e).1 W; rwa [lets_none hk] at this)
      have e1 : readC s e = (⟨(rd s e).1, 0, 0, 0, 0, 0, 0⟩, (rd s e).2, 3) := by unfold readC; rw [if_neg (by simp [he]), hk]; rfl
      unfold rrC
      rw [e1]
      exact this
  · have := rread_fail g s e hs w h he
    have e1 : readC s e = (⟨(rd s e).1, 0, 0, 0, 0, 0, 0⟩, (rd s e).2, (rd s e).2.2) := by unfold readC; rw [if_pos he]
    unfold rrC
    rw [e1]
    rw [if_neg he]
    exact this
theorem encK {n c : Nat} {k : Int} (h : codeN k = c) (hc : c < 128) (hn : UInt8.ofNat c = UInt8.ofNat n) : encN (codeN k) = [UInt8.ofNat n] := by rw [h, encN_one hc, hn]
def tickC : Cm := ⟨10, 0, 0, 0, 0, 0, 0⟩
def payC : Cm := ⟨4, 0, 2, 0, 0, 100, 0⟩
theorem tick_put : putA tickC = .tuple #[.string ⟨#[20]⟩, .int .i64 0] := by
  have h : rightV tickC = true := by decide +kernel
  unfold putA
  rw [if_pos h]
  have : bytesC tickC = [20] := by
    have e : numsL tickC (lets tickC.k) (lets tickC.k).length = [10] := by decide +kernel
    unfold bytesC
    rw [e]
    simp only [encL]
    rw [show codeN 10 = 20 from by decide, encN_one (by decide)]
    rfl
  rw [this]
  rfl
theorem pay_put : putA payC = .tuple #[.string ⟨#[8, 4, 200, 1]⟩, .int .i64 0] := by
  have h : rightV payC = true := by decide +kernel
  unfold putA
  rw [if_pos h]
  have : bytesC payC = [8, 4, 200, 1] := by
    have e : numsL payC (lets payC.k) (lets payC.k).length = [4, 2, 100] := by decide +kernel
    unfold bytesC
    rw [e]
    simp only [encL]
    rw [show codeN 4 = 8 from by decide, show codeN 2 = 4 from by decide, show codeN 100 = 200 from by decide, encN_one (by decide), encN_one (by decide), encN_more (by decide), encN_one (by decide)]
    rfl
  rw [this]
  rfl
theorem awake11_any (w : World) : Calls Try.prog 10 #[] w (Ret (.bool true) w) := by
  have H1 := Lib.hid (fun W => cput_top tickC ⟨by decide, by decide, by decide, by decide, by decide, by decide, by decide⟩ W)
  have H2 := Lib.hid (fun W => cput_top payC ⟨by decide, by decide, by decide, by decide, by decide, by decide, by decide⟩ W)
  rw [tick_put] at H1
  rw [pay_put] at H2
  have H3 : Hid (∀ W, Calls Try.prog 21 #[.int .i64 10] W (Ret (.string ⟨#[116, 105, 99, 107]⟩) W)) := fun W => word_in 10 (by decide) W
  go_enter Try.func10, Try.ntmps10
  go_wp2_with fail
  refine (H1.out _).mono ?_
  rintro e w1 ⟨rfl, h1⟩
  go_wp2_with fail
  refine (H2.out _).mono ?_
  rintro e w2 ⟨rfl, h2⟩
  go_wp2_with fail
  refine (H3.out _).mono ?_
  rintro e w3 ⟨rfl, h3⟩
  have HB : Hid (Below w.heap.size w w3) := (h1.trans (h2.mono h1.size)).trans (h3.mono (Nat.le_trans h1.size h2.size))
  clear h1 h2 h3
  go_wp2
  go_ret
  exact ⟨rfl, HB.out⟩
end Go.Proofs.Ytbpaongnehgodaa
