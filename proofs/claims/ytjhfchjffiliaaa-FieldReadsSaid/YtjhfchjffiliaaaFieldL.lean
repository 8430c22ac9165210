/-
  A row of fields; which kind one is.
-/
import Derived.Test.YtjhfchjffiliaaaFieldM
import Derived.Outline
namespace Go.Proofs.Ytjhfchjffiliaaa
open Go.RowKit Go.Shelf

structure Fld where
  k : Int
  n : Int
  t : ByteArray
  a0 : Nat
  a1 : Nat
  a2 : Nat
  a3 : Nat
structure OkF (f : Fld) : Prop where
  kl : -9223372036854775808 ≤ f.k
  kh : f.k ≤ 9223372036854775807
  nl : -9223372036854775808 ≤ f.n
  nh : f.n ≤ 9223372036854775807
  ts : f.t.size ≤ 140737488351232
  w4 : Ok4 f.a0 f.a1 f.a2 f.a3
/-- A field as a value. -/
abbrev fv (f : Fld) : Value := .agg #[.int .i64 f.k, .int .i64 f.n, .string f.t, .int .u64 (f.a0 : Nat), .int .u64 (f.a1 : Nat), .int .u64 (f.a2 : Nat), .int .u64 (f.a3 : Nat)]
/-- The cells of a field. -/
def fcells (f : Fld) : List Value := [.int .i64 f.k, .int .i64 f.n, .string f.t, .int .u64 (f.a0 : Nat), .int .u64 (f.a1 : Nat), .int .u64 (f.a2 : Nat), .int .u64 (f.a3 : Nat)]
/-- The row at b, off holds these fields. -/
def FRow (W : World) (b off : Nat) (l : List Fld) : Prop := ∀ i f, l[i]? = some f → ∀ j v, (fcells f)[j]? = some v → W.cell? ⟨b, off + i * 7 + j, none⟩ = some v
def FSl (W : World) (sv : Value) (l : List Fld) : Prop :=
  ∃ a cap, sv = .slice a l.length cap ∧ l.length ≤ 9223372036854775807 ∧ (∀ f ∈ l, OkF f) ∧ (l = [] ∨ ∃ b off, a = some ⟨b, off, none⟩ ∧ b < W.heap.size ∧ FRow W b off l)
theorem FSl.below {W W' : World} {sv : Value} {l : List Fld} (h : FSl W sv l) (hb : Below W.heap.size W W') : FSl W' sv l := by
  obtain ⟨a, cap, e, hm, hk, h0 | ⟨b, off, ha, hlt, hr⟩⟩ := h
  · exact ⟨a, cap, e, hm, hk, .inl h0⟩
  · exact ⟨a, cap, e, hm, hk, .inr ⟨b, off, ha, Nat.lt_of_lt_of_le hlt hb.size, fun i f hf j v hv => (hb.cell (p := ⟨b, _, none⟩) hlt).trans (hr i f hf j v hv)⟩⟩

def kindF (k : Int) : Int := (Int.tmod k 3 + 3) % 3
theorem kindF_cases (k : Int) : kindF k = 0 ∨ kindF k = 1 ∨ kindF k = 2 := by
  unfold kindF
  have h1 := Int.tmod_lt_of_pos k (b := 3) (by omega)
  have h2 := Int.lt_tmod_of_pos k (b := 3) (by omega)
  omega

set_option maxRecDepth 100000 in
theorem kind_any (f : Fld) (w : World) : Calls Try.prog 14 #[fv f] w fun e W' => e = .returned (.int .i64 (kindF f.k)) ∧ Below w.heap.size w W' := by
  have h1 := Int.tmod_lt_of_pos f.k (b := 3) (by omega)
  have h2 := Int.lt_tmod_of_pos f.k (b := 3) (by omega)
  unfold kindF
  go_enter Try.func14, Try.ntmps14
  go_wp2
  go_ret
  exact ⟨rfl, chain0 _ _⟩

theorem FRow.at {W : World} {b off : Nat} {l : List Fld} (h : FRow W b off l) {i : Nat} {f : Fld} (hf : l[i]? = some f) :
    W.cell? ⟨b, off + i * 7, none⟩ = some (.int .i64 f.k) ∧ W.cell? ⟨b, off + i * 7 + 1, none⟩ = some (.int .i64 f.n) ∧ W.cell? ⟨b, off + i * 7 + 2, none⟩ = some (.string f.t) ∧
    W.cell? ⟨b, off + i * 7 + 3, none⟩ = some (.int .u64 (f.a0 : Nat)) ∧ W.cell? ⟨b, off + i * 7 + 4, none⟩ = some (.int .u64 (f.a1 : Nat)) ∧ W.cell? ⟨b, off + i * 7 + 5, none⟩ = some (.int .u64 (f.a2 : Nat)) ∧ W.cell? ⟨b, off + i * 7 + 6, none⟩ = some (.int .u64 (f.a3 : Nat)) :=
  ⟨h i f hf 0 _ rfl, h i f hf 1 _ rfl, h i f hf 2 _ rfl, h i f hf 3 _ rfl, h i f hf 4 _ rfl, h i f hf 5 _ rfl, h i f hf 6 _ rfl⟩
theorem FRow.below {W W' : World} {n b off : Nat} {l : List Fld} (h : FRow W b off l) (hb : Below n W W') (hlt : b < n) : FRow W' b off l := fun i f hf j v hv => (hb.cell (p := ⟨b, _, none⟩) hlt).trans (h i f hf j v hv)

/-- One more field is written. -/
def stepS (s : St) (f : Fld) : St := if kindF f.k = 0 then numS s f.n else if kindF f.k = 1 then txtS s f.t else wideS s f.a0 f.a1 f.a2 f.a3
/-- All are. -/
def allS (l : List Fld) : St := l.foldl stepS ([], 0)
theorem allS_snoc {l : List Fld} {k : Nat} {f : Fld} (h : l[k]? = some f) : allS (l.take (k + 1)) = stepS (allS (l.take k)) f := by
  rw [List.take_add_one, h]
  simp [allS]
theorem okS_step {s : St} (h : OkS s) (f : Fld) : OkS (stepS s f) := by
  unfold stepS; split
  · exact okS_num h _
  · split
    · exact okS_txt h _
    · exact okS_wide h _ _ _ _
theorem okS_all (l : List Fld) : OkS (allS l) := by
  unfold allS
  have : ∀ (l : List Fld) (s : St), OkS s → OkS (l.foldl stepS s) := by
    intro l; induction l with
    | nil => exact fun s h => h
    | cons f l ih => exact fun s h => ih _ (okS_step h f)
  exact this l _ ⟨fun _ => rfl, by simp⟩
end Go.Proofs.Ytjhfchjffiliaaa
