/- symMerge of Go's package slices: any two sorted stretches. -/
import Derived.Test.YtncbieaobadekaaSort8a
import Derived.Test.YtncbieaobadekaaSort8b
namespace Go.Proofs.Ytncbieaobadekaa
open Go.ChangeShapes Go.WideShapes Go.ChangeAt Go.RowKit
theorem sym_any {V : Int → Prop} {cf : Int → Int → Int} {Inv : World → Prop} {k : Int → Int → Prop} (gf : Nat) (caps : Array Value) (g n cap : Nat) (HC : CmpOk gf caps g V cf Inv) (hk : SWO k) (hcf : ∀ x y, V x → V y → (cf x y < 0 ↔ k x y)) (hn : n ≤ 1000000) :
    ∀ (d a m b : Nat) (f : Nat → Int) (w : World), b - a ≤ d → a < m → m < b → b ≤ n → (∀ i, a ≤ i → i < b → V (f i)) → (∀ s t, a ≤ s → s < m → m ≤ t → t < b → f s < f t) → SortedOn (ltK k) f a m → SortedOn (ltK k) f m b → Inv w → RowF w g n f →
      Calls Try.prog 119 #[.slice (some ⟨g, 0, none⟩) n cap, .int .i64 a, .int .i64 m, .int .i64 b, .func (.func gf) #[] caps] w (Sorts (ltK k) g n f a b w) := by
  intro d
  induction d with
  | zero =>
    intro a m b f w hd ham hmb
    omega
  | succ d ih =>
    intro a m b f w hd ham hmb hbn hV hcr hs1 hs2 hI h
    by_cases c1 : m = a + 1
    · subst c1
      exact sym_left gf caps f g n cap a b HC hk hcf hmb hbn hn hV (fun t t1 t2 => hcr a t (Nat.le_refl _) (by omega) (by omega) t2) hs2 w hI h
    · by_cases c2 : b = m + 1
      · subst c2
        exact sym_right gf caps f g n cap a m HC hk hcf (by omega) (by omega) hn hV (fun t t1 t2 => hcr t m t1 t2 (Nat.le_refl _) (by omega)) hs1 w hI h
      · have IH := fun (a' m' b' : Nat) (f' : Nat → Int) (w' : World) (hb : b' - a' < b - a) => ih a' m' b' f' w' (by omega)
        by_cases c3 : (a + b) / 2 < m
        · exact sym_up gf caps f g n cap a m b _ _ _ HC hk hcf IH (by omega) (by omega) hbn hn rfl c3 rfl rfl hV hcr hs1 hs2 w hI h
        · exact sym_down gf caps f g n cap a m b _ _ _ HC hk hcf IH (by omega) (by omega) hbn hn rfl (by omega) rfl rfl hV hcr hs1 hs2 w hI h
end Go.Proofs.Ytncbieaobadekaa
