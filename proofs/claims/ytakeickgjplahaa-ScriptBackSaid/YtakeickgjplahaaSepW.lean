/-
  An element of a row of the call's own.
-/
import Derived.Test.YtakeickgjplahaaSepApp
import Derived.Test.YtakeickgjplahaaKit
namespace Go.Proofs.Ytakeickgjplahaa
open Go.RowKit Go.Shelf

theorem ROk.elem {α : Type} {f : α → List Value} {n : Nat} {W : World} {v : Value} {l : List α} {e : TypeId} (h : ROk (.own f e n v l) W) (hn : ∀ x, (f x).length = n) {k : Nat} {x : α} (hx : l[k]? = some x) {ty e' : TypeId} (hu : Try.prog.underlying ty = some (.slice e')) (hs : ∀ W, (sizeOf e').run Try.prog W = .ok n W) :
    ∃ b o, (∀ W', (Instr.indexAt ty v (.int .i64 (k : Int))).run Try.prog W' = .ok (.pointer (some ⟨b, o, none⟩)) W') ∧ ∀ W', ROk (.own f e n v l) W' → ∀ j u, (f x)[j]? = some u → W'.cell? ⟨b, o + j, none⟩ = some u := by
  obtain ⟨b, o, _, _, hi, _⟩ := RSl.elem (h.rsl hn) hn hx hu hs
  refine ⟨b, o, hi, fun W' h' => ?_⟩
  obtain ⟨b', o', _, _, hi', hc'⟩ := RSl.elem (h'.rsl hn) hn hx hu hs
  have hq := (hi' W).symm.trans (hi W)
  obtain ⟨rfl, rfl⟩ : b' = b ∧ o' = o := by simpa using hq
  exact hc' W' (h'.rsl hn)
theorem ROk.slice {α : Type} {f : α → List Value} {n : Nat} {W : World} {v : Value} {l : List α} {e : TypeId} (h : ROk (.own f e n v l) W) (hn : ∀ x, (f x).length = n) : ∃ a c, v = .slice a l.length c := (h.rsl hn).slice
theorem ROk.one {α : Type} {f : α → List Value} {n : Nat} {W : World} {v : Value} {l : List α} {e : TypeId} (h : ROk (.own f e n v l) W) (hn : ∀ x, (f x).length = n) : v.oneCell' = true := by
  obtain ⟨a, c, rfl⟩ := h.slice hn
  rfl
end Go.Proofs.Ytakeickgjplahaa
