/-
  The seed of a router's key: bid's Seed.
  mss.Sign.
  DERIVED: THE SHELF's CONTRACTS AT THIS DUMP, IN PLAIN WORDS (tools/lay-plain.mjs out of 'TryzShelf.lean', which tools/lay-shelf.mjs wrote): THE SAME DECLARATIONS UNDER THE SAME NAMES: 'import', 'namespace', 'open', 'def', 'theorem' AND NOTHING ELSE: no command of the shelf's: FOR A HAND-IN. Each laying: the table of numbers ('.._ren') and one theorem, a field a fact of the dump's own or the kernel's comparison; each contract: ONE APPLICATION.
  mss.Sign with a leaf left.
-/
import Derived.Outline
import Derived.Shelf.Strings.Builder1
import Derived.Shelf.Strings.Builder2
import Derived.Shelf.Strings.OnBuilder
import Derived.Test.YtiibeahgleaonaaGreatProg
import Derived.Test.YtiibeahgleaonaaGreatK13
namespace Go.Proofs.YtiibeahgleaonaaGreat
open Go.RowKit Go.Shelf

/-- The text "router". -/
def routerB : ByteArray := ⟨#[114, 111, 117, 116, 101, 114]⟩
def seedB (r : Int) : ByteArray := routerB ++ ⟨(octs (two r) 1).toArray⟩
set_option maxRecDepth 100000 in
theorem seed8_any (r : Int) (w : World) :
    Calls Tryz.prog 16 #[.int .i64 r] w fun e W' => e = .returned (.string (seedB r)) ∧ Below w.heap.size w W' := by
  have HN := Lib.hid (fun W => num_any r 1 (by omega) (by omega) W)
  have HS : Hid (seedB r = routerB ++ ⟨(octs (two r) 1).toArray⟩) := Lib.hid rfl
  have h1 : clamp 1 = 1 := rfl
  rw [h1] at HN
  have hl : ¬ 9223372036854775807 < 6 + (octs (two r) 1).length := by rw [octs_length]; omega
  generalize octs (two r) 1 = l at *
  go_enter Tryz.func16, Tryz.ntmps16
  go_wp2_with (go_at_call 38; refine (HN.out _).mono ?_; rintro e W1 ⟨sv, rfl, hsv, hb⟩; have hcv := str_of _ hsv)
  go_ret
  exact ⟨by rw [HS.out]; rfl, hb⟩

end Go.Proofs.YtiibeahgleaonaaGreat

namespace Go.Proofs.YtiibeahgleaonaaGreat
open Go.RowKit Go.Shelf

/-- No signature, an error. -/
def NoSig (c : Int) (w : World) (e : Ending) (W' : World) : Prop := e = .returned (.tuple #[.string ⟨#[]⟩, .agg #[.string ⟨#[]⟩, .int .i64 0], .int .i64 c]) ∧ Below w.heap.size w W'

set_option maxRecDepth 100000 in
set_option maxHeartbeats 2000000 in
theorem mssSign_state (s : ByteArray) (z : Int) (hz : z < 0 ∨ 8 < z) (tx : Value) (w : World) :
    Calls Tryz.prog 39 #[.agg #[.string s, .int .i64 z], tx] w (NoSig 9 w) := by
  rcases hz with hz | hz
  · go_enter Tryz.func39, Tryz.ntmps39
    go_wp2
    exact bodyPost_ret (v := .tuple #[.string ⟨#[]⟩, .agg #[.string ⟨#[]⟩, .int .i64 0], .int .i64 9]) (by simp [results, Tryz.results39, go_sem]) rfl ⟨rfl, chainA (chain0 _ _) _⟩
  · go_enter Tryz.func39, Tryz.ntmps39
    go_wp2
    exact bodyPost_ret (v := .tuple #[.string ⟨#[]⟩, .agg #[.string ⟨#[]⟩, .int .i64 0], .int .i64 9]) (by simp [results, Tryz.results39, go_sem]) rfl ⟨rfl, chainA (chain0 _ _) _⟩

set_option maxRecDepth 100000 in
set_option maxHeartbeats 2000000 in
theorem mssSign_full (s : ByteArray) (tx : Value) (w : World) :
    Calls Tryz.prog 39 #[.agg #[.string s, .int .i64 8], tx] w (NoSig 10 w) := by
  go_enter Tryz.func39, Tryz.ntmps39
  go_wp2
  exact bodyPost_ret (v := .tuple #[.string ⟨#[]⟩, .agg #[.string ⟨#[]⟩, .int .i64 0], .int .i64 10]) (by simp [results, Tryz.results39, go_sem]) rfl ⟨rfl, chainA (chain0 _ _) _⟩
end Go.Proofs.YtiibeahgleaonaaGreat

namespace Go.Proofs
open Go.Shelf
def Tryz.lays169_ren : Go.Shelf.Ren := ⟨fun | 169 => 91 | n => n, fun | 70 => 127 | 9 => 9 | 0 => 0 | 72 => 129 | 37 => 35 | 127 => 159 | 3 => 3 | 5 => 5 | n => n, fun | n => n⟩
theorem Tryz.lays169 : Go.Proofs.Lays.n169 Tryz.prog Tryz.lays169_ren := {
  mixed := by kernel_rfl
  f169 := Tryz.func91.trans (congrArg some (by kernel_rfl))
  t0 := Tryz.underlying0
  a0 := Tryz.isAgg0
  z0 := Tryz.sizeOf0
  v0 := Tryz.zeroValue0
  t3 := Tryz.underlying3
  a3 := Tryz.isAgg3
  z3 := Tryz.sizeOf3
  v3 := Tryz.zeroValue3
  t9 := Tryz.underlying9
  a9 := Tryz.isAgg9
  z9 := Tryz.sizeOf9
  v9 := Tryz.zeroValue9
  t37 := Tryz.underlying35
  a37 := Tryz.isAgg35
  z37 := Tryz.sizeOf35
  v37 := Tryz.zeroValue35
  t70 := Tryz.underlying127
  a70 := Tryz.isAgg127
  z70 := Tryz.sizeOf127
  v70 := Tryz.zeroValue127
  t72 := Tryz.underlying129
  a72 := Tryz.isAgg129
  z72 := Tryz.sizeOf129
  v72 := Tryz.zeroValue129
  t127 := Tryz.underlying159
  a127 := Tryz.isAgg159
  z127 := Tryz.sizeOf159
  v127 := Tryz.zeroValue159 }
theorem Tryz.Builder_Extra_169 : Builder.Extra Tryz.prog Tryz.lays169_ren := {
  sizeBuilder := by kernel_rfl
  liesBuilder := by kernel_rfl
  t5 := Tryz.underlying5
  a5 := Tryz.isAgg5
  z5 := Tryz.sizeOf5
  v5 := Tryz.zeroValue5
  infoByte := by kernel_rfl
  cellsByte := by kernel_rfl
  sizeByte := by kernel_rfl
  neB5 := by decide }
open Go.RowKit in
/-- (*strings.Builder).String: "String returns the accumulated string.": OF A BUILDER THAT HOLDS AT LEAST ONE BYTE. ✋ THE MODEL FREEZES THOSE BYTES IN THE BUFFER (unsafe.String): a later write INTO them ends the model's run without an answer; a later append BEHIND them goes on. The statement's order of evaluation is drawn: one draw. (LAID: no walk: one application.) -/
theorem Tryz.Builder_String (B b : Nat) (l : List UInt8) (w : World) (h : Lib.IsBuilder 129 5 B b (Lib.byteCells l) w) (h0 : l ≠ []) :
    Calls Tryz.prog 91 #[.pointer (some ⟨b, 0, none⟩)] w fun e w' => e = .returned (.string ⟨l.toArray⟩) ∧ Below B w w' := Any.Builder_String Tryz.lays169 Tryz.Builder_Extra_169 B b l w h h0
open Go.RowKit in
/-- (*strings.Builder).String OF A BUILDER THAT HOLDS NO BYTE: the empty string. (Its buffer is nil, or a row of which it has taken nothing yet; where that row has NO capacity the model lays one new block for unsafe.SliceData's 'some address'.) One draw. (LAID: no walk: one application.) -/
theorem Tryz.Builder_String_empty (B b : Nat) (w : World) (h : Lib.IsBuilder 129 5 B b [] w) (hBw : B ≤ w.heap.size) :
    Calls Tryz.prog 91 #[.pointer (some ⟨b, 0, none⟩)] w fun e w' => e = .returned (.string ⟨#[]⟩) ∧ Below B w w' := Any.Builder_String_empty Tryz.lays169 Tryz.Builder_Extra_169 B b w h hBw
open Go.RowKit in
/-- (*strings.Builder).String: "String returns the accumulated string.": WHATEVER THE BUILDER HOLDS. (LAID: no walk: one application.) -/
theorem Tryz.Builder_String_any (B b : Nat) (l : List UInt8) (w : World) (h : Lib.IsBuilder 129 5 B b (Lib.byteCells l) w) (hBw : B ≤ w.heap.size) :
    Calls Tryz.prog 91 #[.pointer (some ⟨b, 0, none⟩)] w fun e w' => e = .returned (.string ⟨l.toArray⟩) ∧ Below B w w' := Any.Builder_String_any Tryz.lays169 Tryz.Builder_Extra_169 B b l w h hBw
def Tryz.lays241_ren : Go.Shelf.Ren := ⟨fun | 241 => 113 | 277 => 132 | n => n, fun | 70 => 127 | 3 => 3 | 0 => 0 | 72 => 129 | 37 => 35 | 5 => 5 | n => n, fun | n => n⟩
theorem Tryz.lays241 : Go.Proofs.Lays.n241 Tryz.prog Tryz.lays241_ren := {
  mixed := by kernel_rfl
  f241 := Tryz.func113.trans (congrArg some (by kernel_rfl))
  f277 := Tryz.func132.trans (congrArg some (by kernel_rfl))
  t0 := Tryz.underlying0
  a0 := Tryz.isAgg0
  z0 := Tryz.sizeOf0
  v0 := Tryz.zeroValue0
  t3 := Tryz.underlying3
  a3 := Tryz.isAgg3
  z3 := Tryz.sizeOf3
  v3 := Tryz.zeroValue3
  t37 := Tryz.underlying35
  a37 := Tryz.isAgg35
  z37 := Tryz.sizeOf35
  v37 := Tryz.zeroValue35
  t70 := Tryz.underlying127
  a70 := Tryz.isAgg127
  z70 := Tryz.sizeOf127
  v70 := Tryz.zeroValue127
  t72 := Tryz.underlying129
  a72 := Tryz.isAgg129
  z72 := Tryz.sizeOf129
  v72 := Tryz.zeroValue129 }
theorem Tryz.Builder_Extra_241 : Builder.Extra Tryz.prog Tryz.lays241_ren := {
  sizeBuilder := by kernel_rfl
  liesBuilder := by kernel_rfl
  t5 := Tryz.underlying5
  a5 := Tryz.isAgg5
  z5 := Tryz.sizeOf5
  v5 := Tryz.zeroValue5
  infoByte := by kernel_rfl
  cellsByte := by kernel_rfl
  sizeByte := by kernel_rfl
  neB5 := by decide }
open Go.RowKit in
/-- (*strings.Builder).grow (no doc but "grow copies the buffer to a new, larger buffer so that there are at least n bytes of capacity beyond len(b.buf)."): AT A BUILDER WITHOUT A BUFFER: a new row of whatever bytes for its buffer, none of them its own yet. Three draws. (LAID: no walk: one application.) -/
theorem Tryz.Builder_grow_fresh (B b n : Nat) (w : World) (hB : B ≤ b) (hbk : w.heap[b]? = some (.cells #[.pointer (some ⟨b, 0, none⟩), .slice none 0 0] 129 (0, 0))) (hBw : B ≤ w.heap.size) (hn : n ≤ 281474976710656) :
    Calls Tryz.prog 113 #[.pointer (some ⟨b, 0, none⟩), .int .i64 n] w fun e w' => e = .returned (.tuple #[]) ∧ (Lib.BuilderAt 129 5 B b (.pointer (some ⟨b, 0, none⟩)) [] w' ∧ Below B w w') := Any.Builder_grow_fresh Tryz.lays241 Tryz.Builder_Extra_241 B b n w hB hbk hBw hn
def Tryz.lays165_ren : Go.Shelf.Ren := ⟨fun | 165 => 89 | 240 => 112 | 241 => 113 | 276 => 131 | 277 => 132 | n => n, fun | 70 => 127 | 3 => 3 | 0 => 0 | 4 => 4 | 9 => 9 | 20 => 20 | 72 => 129 | 37 => 35 | 164 => 175 | 5 => 5 | n => n, fun | n => n⟩
theorem Tryz.lays165 : Go.Proofs.Lays.n165 Tryz.prog Tryz.lays165_ren := {
  mixed := by kernel_rfl
  f165 := Tryz.func89.trans (congrArg some (by kernel_rfl))
  f240 := Tryz.func112.trans (congrArg some (by kernel_rfl))
  f241 := Tryz.func113.trans (congrArg some (by kernel_rfl))
  f276 := Tryz.func131.trans (congrArg some (by kernel_rfl))
  f277 := Tryz.func132.trans (congrArg some (by kernel_rfl))
  t0 := Tryz.underlying0
  a0 := Tryz.isAgg0
  z0 := Tryz.sizeOf0
  v0 := Tryz.zeroValue0
  t3 := Tryz.underlying3
  a3 := Tryz.isAgg3
  z3 := Tryz.sizeOf3
  v3 := Tryz.zeroValue3
  t4 := Tryz.underlying4
  a4 := Tryz.isAgg4
  z4 := Tryz.sizeOf4
  v4 := Tryz.zeroValue4
  t9 := Tryz.underlying9
  a9 := Tryz.isAgg9
  z9 := Tryz.sizeOf9
  v9 := Tryz.zeroValue9
  t20 := Tryz.underlying20
  a20 := Tryz.isAgg20
  z20 := Tryz.sizeOf20
  v20 := Tryz.zeroValue20
  t37 := Tryz.underlying35
  a37 := Tryz.isAgg35
  z37 := Tryz.sizeOf35
  v37 := Tryz.zeroValue35
  t70 := Tryz.underlying127
  a70 := Tryz.isAgg127
  z70 := Tryz.sizeOf127
  v70 := Tryz.zeroValue127
  t72 := Tryz.underlying129
  a72 := Tryz.isAgg129
  z72 := Tryz.sizeOf129
  v72 := Tryz.zeroValue129
  t164 := Tryz.underlying175
  a164 := Tryz.isAgg175
  z164 := Tryz.sizeOf175
  v164 := Tryz.zeroValue175 }
theorem Tryz.Builder_Extra_165 : Builder.Extra Tryz.prog Tryz.lays165_ren := {
  sizeBuilder := by kernel_rfl
  liesBuilder := by kernel_rfl
  t5 := Tryz.underlying5
  a5 := Tryz.isAgg5
  z5 := Tryz.sizeOf5
  v5 := Tryz.zeroValue5
  infoByte := by kernel_rfl
  cellsByte := by kernel_rfl
  sizeByte := by kernel_rfl
  neB5 := by decide }
open Go.RowKit in
/-- (*strings.Builder).Grow AT A BUILDER THAT HAS NOT BEEN WRITTEN ('var b strings.Builder; b.Grow(n)'): "Grow grows b's capacity, if necessary, to guarantee space for another n bytes.": it holds no byte behind it as before it. (LAID: no walk: one application.) -/
theorem Tryz.Builder_Grow_fresh (B b n : Nat) (w : World) (hB : B ≤ b) (hbk : w.heap[b]? = some (.cells #[.pointer none, .slice none 0 0] 129 (0, 0))) (hBw : B ≤ w.heap.size) (hn : n ≤ 281474976710656) :
    Calls Tryz.prog 89 #[.pointer (some ⟨b, 0, none⟩), .int .i64 n] w fun e w' => e = .returned (.tuple #[]) ∧ (Lib.BuilderAt 129 5 B b (.pointer (some ⟨b, 0, none⟩)) [] w' ∧ Below B w w') := Any.Builder_Grow_fresh Tryz.lays165 Tryz.Builder_Extra_165 B b n w hB hbk hBw hn
def Tryz.lays156_ren : Go.Shelf.Ren := ⟨fun | 156 => 67 | 165 => 89 | 166 => 90 | 169 => 91 | 240 => 112 | 241 => 113 | 276 => 131 | 277 => 132 | n => n, fun | 31 => 77 | 9 => 9 | 3 => 3 | 4 => 4 | 0 => 0 | 20 => 20 | 72 => 129 | 76 => 132 | 70 => 127 | 37 => 35 | 75 => 131 | 127 => 159 | 164 => 175 | 5 => 5 | 80 => 134 | n => n, fun | n => n⟩
theorem Tryz.lays156 : Go.Proofs.Lays.n156 Tryz.prog Tryz.lays156_ren := {
  mixed := by kernel_rfl
  f156 := Tryz.func67.trans (congrArg some (by kernel_rfl))
  f165 := Tryz.func89.trans (congrArg some (by kernel_rfl))
  f166 := Tryz.func90.trans (congrArg some (by kernel_rfl))
  f169 := Tryz.func91.trans (congrArg some (by kernel_rfl))
  f240 := Tryz.func112.trans (congrArg some (by kernel_rfl))
  f241 := Tryz.func113.trans (congrArg some (by kernel_rfl))
  f276 := Tryz.func131.trans (congrArg some (by kernel_rfl))
  f277 := Tryz.func132.trans (congrArg some (by kernel_rfl))
  t0 := Tryz.underlying0
  a0 := Tryz.isAgg0
  z0 := Tryz.sizeOf0
  v0 := Tryz.zeroValue0
  t3 := Tryz.underlying3
  a3 := Tryz.isAgg3
  z3 := Tryz.sizeOf3
  v3 := Tryz.zeroValue3
  t4 := Tryz.underlying4
  a4 := Tryz.isAgg4
  z4 := Tryz.sizeOf4
  v4 := Tryz.zeroValue4
  t9 := Tryz.underlying9
  a9 := Tryz.isAgg9
  z9 := Tryz.sizeOf9
  v9 := Tryz.zeroValue9
  t20 := Tryz.underlying20
  a20 := Tryz.isAgg20
  z20 := Tryz.sizeOf20
  v20 := Tryz.zeroValue20
  t31 := Tryz.underlying77
  a31 := Tryz.isAgg77
  z31 := Tryz.sizeOf77
  v31 := Tryz.zeroValue77
  t37 := Tryz.underlying35
  a37 := Tryz.isAgg35
  z37 := Tryz.sizeOf35
  v37 := Tryz.zeroValue35
  t70 := Tryz.underlying127
  a70 := Tryz.isAgg127
  z70 := Tryz.sizeOf127
  v70 := Tryz.zeroValue127
  t72 := Tryz.underlying129
  a72 := Tryz.isAgg129
  z72 := Tryz.sizeOf129
  v72 := Tryz.zeroValue129
  t75 := Tryz.underlying131
  a75 := Tryz.isAgg131
  z75 := Tryz.sizeOf131
  v75 := Tryz.zeroValue131
  t76 := Tryz.underlying132
  a76 := Tryz.isAgg132
  z76 := Tryz.sizeOf132
  v76 := Tryz.zeroValue132
  t127 := Tryz.underlying159
  a127 := Tryz.isAgg159
  z127 := Tryz.sizeOf159
  v127 := Tryz.zeroValue159
  t164 := Tryz.underlying175
  a164 := Tryz.isAgg175
  z164 := Tryz.sizeOf175
  v164 := Tryz.zeroValue175 }
theorem Tryz.Builder_Extra_156 : Builder.Extra Tryz.prog Tryz.lays156_ren := {
  sizeBuilder := by kernel_rfl
  liesBuilder := by kernel_rfl
  t5 := Tryz.underlying5
  a5 := Tryz.isAgg5
  z5 := Tryz.sizeOf5
  v5 := Tryz.zeroValue5
  infoByte := by kernel_rfl
  cellsByte := by kernel_rfl
  sizeByte := by kernel_rfl
  neB5 := by decide }
open Go.RowKit in
/-- No element: the empty string; the world is as it was. (Whatever the slice's address and capacity: a nil slice too.) (LAID: no walk: one application.) -/
theorem Tryz.strings_Join_none (a : Option Addr) (c : Nat) (sep : ByteArray) (w : World) :
    Calls Tryz.prog 67 #[.slice a 0 c, .string sep] w fun e w' => e = .returned (.string ⟨#[]⟩) ∧ w' = w := Any.strings_Join_none Tryz.lays156 Tryz.Builder_Extra_156 a c sep w
open Go.RowKit in
/-- strings.Join: "Join concatenates the elements of its first argument to create a single string. The separator string sep is placed between elements in the resulting string.": HOWEVER MANY ELEMENTS. Below the heap's end the world is as it was. (LAID: no walk: one application.) -/
theorem Tryz.strings_Join (bk o c : Nat) (xs : List ByteArray) (sep : ByteArray) (w : World) (hcells : ∀ (j : Nat) x, xs[j]? = some x → w.cell? ⟨bk, o + j, none⟩ = some (.string x)) (hbk : bk < w.heap.size) (hN : xs.length ≤ 140737488355328) (hcap : xs.length ≤ c) (hlen : (Lib.join (xs.map (·.data.toList)) sep.data.toList).length ≤ 140737488355328) :
    Calls Tryz.prog 67 #[.slice (some ⟨bk, o, none⟩) xs.length c, .string sep] w fun e w' => e = .returned (.string ⟨(Lib.join (xs.map (·.data.toList)) sep.data.toList).toArray⟩) ∧ Below w.heap.size w w' := Any.strings_Join Tryz.lays156 Tryz.Builder_Extra_156 bk o c xs sep w hcells hbk hN hcap hlen
end Go.Proofs

namespace Go.Proofs.YtiibeahgleaonaaGreat
open Go.RowKit Go.Shelf

theorem join_flat (xs : List (List UInt8)) : Lib.join xs [] = xs.flatten := by
  cases xs with
  | nil => rfl
  | cons x r =>
    rw [Lib.join_cons]
    unfold Lib.joinTail
    simp
/-- strings.Join of a row of the call's own, nothing between. -/
theorem joinAll (zs : List ByteArray) (g c : Nat) (w : World) (hg : g < w.heap.size) (hn : zs.length ≤ 1000) (hc : zs.length ≤ c) (hz : ∀ x ∈ zs, x.size ≤ 8) (hcells : ∀ k x, zs[k]? = some x → w.cell? ⟨g, k, none⟩ = some (.string x)) :
    Calls Tryz.prog 67 #[.slice (some ⟨g, 0, none⟩) zs.length c, .string ⟨#[]⟩] w fun e W' => e = .returned (.string (catL zs)) ∧ Below w.heap.size w W' := by
  have e : Lib.join (zs.map (·.data.toList)) (⟨#[]⟩ : ByteArray).data.toList = (catL zs).data.toList := by
    rw [catL_list, show (⟨#[]⟩ : ByteArray).data.toList = [] from rfl, join_flat]
  have hl := catL_le zs 8 hz
  have h := Tryz.strings_Join g 0 c zs ⟨#[]⟩ w (fun j x hj => by rw [Nat.zero_add]; exact hcells j x hj) hg (by omega) hc (by rw [e]; show (catL zs).size ≤ _; omega)
  rw [e] at h
  exact h
/-- A signature, and the key with the next leaf. -/
def GotSig (s : ByteArray) (n : Nat) (l : List UInt8) (w : World) (e : Ending) (W' : World) : Prop := e = .returned (.tuple #[.string (sigB s n l), .agg #[.string s, .int .i64 ((n : Int) + 1)], .int .i64 0]) ∧ Below w.heap.size w W'

set_option maxRecDepth 100000 in
set_option maxHeartbeats 8000000 in
theorem mssSign_any (s : ByteArray) (hs : s.size ≤ 140737488352000) (n : Nat) (hn : n < 8) (l : List UInt8) (tx : Value) (w : World) (hreach : l.length ≤ 140737488353000) (htx : BSl 0 w.heap.size w tx l) :
    Calls Tryz.prog 39 #[.agg #[.string s, .int .i64 (n : Int)], tx] w (GotSig s n l w) := by
  have hmx : Tryz.prog.follows .mixedOrders = true := by kernel_rfl
  have hp : Hid (sigB s n l = oneB n ++ catL (sigL s n l)) := Lib.hid rfl
  have hS1 := sign_any s hs (n : Int) l tx
  rw [lfN_small (by omega)] at hS1
  have HSG := Lib.hid hS1
  have HPA := Lib.hid (fun w => path_any s hs (n : Int) w)
  have HSL : Hid (sigL s n l = signL s n l ++ pathL s (n : Int)) := Lib.hid rfl
  have HPL := Lib.hid (pathL_length (s := s) hn)
  have HQL := Lib.hid (signL_length s n l)
  have HGL := Lib.hid (sigL_length (s := s) l hn)
  have HM := Lib.hid (fun x (h : x ∈ sigL s n l) => Nat.le_of_eq (sigL_size h))
  have HN := Lib.hid hn
  have h0 : ¬ (n : Int) < 0 := by omega
  have h8 : ¬ 8 < (n : Int) := by omega
  have h9 : ((n : Int) == 8) = false := by simp; omega
  have hc1 : ¬ 9223372036854775807 < (oneB n).size + (catL (sigL s n l)).size := by
    have := catL_le (sigL s n l) 8 HM.out
    rw [HGL.out] at this
    rw [oneB_size]
    omega
  have HC1 := Lib.hid hc1
  have HNum := Lib.hid (fun w => numO_any (n : Int) 1 (by omega) (by omega) w)
  have h1' : octs (two (n : Int)) (clamp 1) = [UInt8.ofNat n] := octs_one (by omega)
  have H1' := Lib.hid h1'
  have HO : Hid ((⟨([UInt8.ofNat n] : List UInt8).toArray⟩ : ByteArray) = oneB n) := Lib.hid rfl
  have htx0 := htx
  obtain ⟨ta, tc, rfl⟩ := bsl_slice htx
  clear htx hS1 hn hc1 h1'
  generalize sigL s n l = Z at *
  generalize signL s n l = zs1 at *
  generalize pathL s (n : Int) = zs2 at *
  generalize hcz : catL Z = cz at *
  have HCZ := Lib.hid hcz
  clear hcz
  go_enter Tryz.func39, Tryz.ntmps39
  go_wp2_with fail
  generalize hW5 : World.alloc _ _ = W5
  have kb : Blk W5 w.heap.size 43 [.string s, .int .i64 (n : Int)] := by rw [← hW5]; exact (Blk.new w _ [.string s, .int .i64 (n : Int)]).alloc _
  have kr : Blk W5 (w.heap.size + 1) 43 [.string ⟨#[]⟩, .int .i64 0] := by rw [← hW5]; exact Blk.new' (vs := [.string ⟨#[]⟩, .int .i64 0]) (by simp)
  have hb0 : Below w.heap.size w W5 := by rw [← hW5]; exact chainA (chain0 _ _) _
  have hz5 : W5.heap.size = w.heap.size + 2 := by rw [← hW5]; simp
  clear hW5
  have c0 : W5.cell? ⟨w.heap.size, 0, none⟩ = some (.string s) := kb.cell 0
  have c1 : W5.cell? ⟨w.heap.size, 1, none⟩ = some (.int .i64 (n : Int)) := kb.cell 1
  have htx5 := (htx0.below hb0 (Nat.le_refl _)).mono (Nat.le_refl _) hb0.size
  have hbw : w.heap.size < W5.heap.size := by omega
  have hrw : w.heap.size + 1 < W5.heap.size := by omega
  clear htx0 kb hz5
  generalize hBk : w.heap.size = B at *
  generalize hRk : B + 1 = R at *
  have HBR : Hid (B ≠ R) := Lib.hid (by omega)
  have HRB : Hid (B ≤ R) := Lib.hid (by omega)
  clear hRk
  refine wp_region_held_drew (S := fun W => Below W5.heap.size W5 W) hmx (Below.refl _ W5).drew ?_
  intro hS
  generalize W5.drew = Y at *
  refine' wpAnyH_take (i := 0) (oi := _) (v := _) ?hi1 (by kernel_rfl) (by kernel_rfl) (by kernel_rfl) ?hQ1 (Or.inl ⟨?hw1, ?hy1⟩) hS ?rest1
  case hi1 => simp only [List.getElem?_toArray, List.getElem?_cons_zero]; rfl
  case hQ1 => exact fun _ _ _ h => h
  case hw1 => rfl
  case hy1 => intro W' hS'; go_simp; with_reducible rfl
  try simp only [Act.put, List.setIfInBounds_toArray, List.set_cons_zero, List.set_cons_succ]
  refine' wpAnyH_take (i := 1) (oi := _) (v := _) ?hi2 (by kernel_rfl) (by kernel_rfl) (by kernel_rfl) ?hQ2 (Or.inl ⟨?hw2, ?hy2⟩) hS ?rest2
  case hi2 => simp only [List.getElem?_toArray, List.getElem?_cons_succ, List.getElem?_cons_zero]; rfl
  case hQ2 => exact fun _ _ _ h => h
  case hw2 => rfl
  case hy2 => intro W' hS'; have hc := (hS'.cell (p := ⟨B, 0, none⟩) hbw).trans c0; go_simp; with_reducible rfl
  try simp only [Act.put, List.setIfInBounds_toArray, List.set_cons_zero, List.set_cons_succ]
  refine' wpAnyH_take (i := 2) (oi := _) (v := _) ?hi3 (by kernel_rfl) (by kernel_rfl) (by kernel_rfl) ?hQ3 (Or.inl ⟨?hw3, ?hy3⟩) hS ?rest3
  case hi3 => simp only [List.getElem?_toArray, List.getElem?_cons_succ, List.getElem?_cons_zero]; rfl
  case hQ3 => exact fun _ _ _ h => h
  case hw3 => rfl
  case hy3 => intro W' hS'; go_simp; with_reducible rfl
  try simp only [Act.put, List.setIfInBounds_toArray, List.set_cons_zero, List.set_cons_succ]
  refine' wpAnyH_take (i := 3) (oi := _) (v := _) ?hi4 (by kernel_rfl) (by kernel_rfl) (by kernel_rfl) ?hQ4 (Or.inl ⟨?hw4, ?hy4⟩) hS ?rest4
  case hi4 => simp only [List.getElem?_toArray, List.getElem?_cons_succ, List.getElem?_cons_zero]; rfl
  case hQ4 => exact fun _ _ _ h => h
  case hw4 => rfl
  case hy4 => intro W' hS'; have hc := (hS'.cell (p := ⟨B, 1, none⟩) hbw).trans c1; go_simp; with_reducible rfl
  try simp only [Act.put, List.setIfInBounds_toArray, List.set_cons_zero, List.set_cons_succ]
  refine' wpAnyH_take (i := 4) (oi := _) (v := _) ?hi5 (by kernel_rfl) (by kernel_rfl) (by kernel_rfl) ?hQ5 (Or.inl ⟨?hw5, ?hy5⟩) hS ?rest5
  case hi5 => simp only [List.getElem?_toArray, List.getElem?_cons_succ, List.getElem?_cons_zero]; rfl
  case hQ5 => exact fun _ _ _ h => h
  case hw5 => rfl
  case hy5 => intro W' hS'; go_simp; with_reducible rfl
  try simp only [Act.put, List.setIfInBounds_toArray, List.set_cons_zero, List.set_cons_succ]
  refine' wpAnyH_take (i := 6) (oi := _) (v := _) ?hi6 (by kernel_rfl) (by kernel_rfl) (by kernel_rfl) ?hQ6 (Or.inl ⟨?hw6, ?hy6⟩) hS ?rest6
  case hi6 => simp only [List.getElem?_toArray, List.getElem?_cons_succ, List.getElem?_cons_zero]; rfl
  case hQ6 => exact fun _ _ _ h => h
  case hw6 => rfl
  case hy6 => intro W' hS'; go_simp; with_reducible rfl
  try simp only [Act.put, List.setIfInBounds_toArray, List.set_cons_zero, List.set_cons_succ]
  refine' wpAnyH_take (i := 7) (oi := _) (v := _) ?hi7 (by kernel_rfl) (by kernel_rfl) (by kernel_rfl) ?hQ7 (Or.inl ⟨?hw7, ?hy7⟩) hS ?rest7
  case hi7 => simp only [List.getElem?_toArray, List.getElem?_cons_succ, List.getElem?_cons_zero]; rfl
  case hQ7 => exact fun _ _ _ h => h
  case hw7 => rfl
  case hy7 => intro W' hS'; have hc := (hS'.cell (p := ⟨B, 0, none⟩) hbw).trans c0; go_simp; with_reducible rfl
  try simp only [Act.put, List.setIfInBounds_toArray, List.set_cons_zero, List.set_cons_succ]
  refine' wpAnyH_take (i := 8) (oi := _) (v := _) ?hi8 (by kernel_rfl) (by kernel_rfl) (by kernel_rfl) ?hQ8 (Or.inl ⟨?hw8, ?hy8⟩) hS ?rest8
  case hi8 => simp only [List.getElem?_toArray, List.getElem?_cons_succ, List.getElem?_cons_zero]; rfl
  case hQ8 => exact fun _ _ _ h => h
  case hw8 => rfl
  case hy8 => intro W' hS'; go_simp; with_reducible rfl
  try simp only [Act.put, List.setIfInBounds_toArray, List.set_cons_zero, List.set_cons_succ]
  refine' wpAnyH_take (i := 9) (oi := _) (v := _) ?hi9 (by kernel_rfl) (by kernel_rfl) (by kernel_rfl) ?hQ9 (Or.inl ⟨?hw9, ?hy9⟩) hS ?rest9
  case hi9 => simp only [List.getElem?_toArray, List.getElem?_cons_succ, List.getElem?_cons_zero]; rfl
  case hQ9 => exact fun _ _ _ h => h
  case hw9 => rfl
  case hy9 => intro W' hS'; have hc := (hS'.cell (p := ⟨B, 1, none⟩) hbw).trans c1; go_simp; with_reducible rfl
  try simp only [Act.put, List.setIfInBounds_toArray, List.set_cons_zero, List.set_cons_succ]
  refine wpAnyH_ready (rs := [5]) (by kernel_rfl) (by simp) ?_
  refine' AllReadyH.cons (o := _) ?ho10 (fun K hK => ?st10) AllReadyH.nil
  case ho10 => simp only [List.getElem?_toArray, List.getElem?_cons_succ, List.getElem?_cons_zero]; rfl
  case st10 =>
    go_simp
    refine (HSG.out _ hreach ((htx5.below hS (Nat.le_refl _)).mono (Nat.le_refl _) hS.size)).mono ?_
    rintro e Y1 ⟨v1, rfl, hown1, hb⟩
    obtain ⟨g1, d1, rfl, hg1, hx1⟩ := textCells HQL.out (by omega) hown1
    have HX1 := Lib.hid hx1
    clear hx1 hown1
    refine hK.out _ _ (hS.trans (hb.mono hS.size)) (fun hS => ?_)
    clear hK K
    try simp only [Act.put, List.setIfInBounds_toArray, List.set_cons_zero, List.set_cons_succ]
    clear hb
    refine wpAnyH_ready (rs := [10]) (by kernel_rfl) (by simp) ?_
    refine' AllReadyH.cons (o := _) ?ho11 (fun K hK => ?st11) AllReadyH.nil
    case ho11 => simp only [List.getElem?_toArray, List.getElem?_cons_succ, List.getElem?_cons_zero]; rfl
    case st11 =>
      go_simp
      refine (HPA.out _).mono ?_
      rintro e Y2 ⟨v2, rfl, hown2, hb⟩
      rw [HPL.out] at hown2
      obtain ⟨g2, d2, rfl, hg2, hx2⟩ := textCells HPL.out (by omega) hown2
      have HX2 := Lib.hid hx2
      clear hx2 hown2
      refine hK.out _ _ (hS.trans (hb.mono hS.size)) (fun hS => ?_)
      clear hK K
      try simp only [Act.put, List.setIfInBounds_toArray, List.set_cons_zero, List.set_cons_succ]
      replace HX1 := Lib.hid (fun k x hk => (hb.cell (p := ⟨g1, k, none⟩) hg1).trans (HX1.out k x hk))
      replace hg1 := Nat.lt_of_lt_of_le hg1 hb.size
      clear hb
      refine wpAnyH_ready (rs := [11]) (by kernel_rfl) (by simp) ?_
      refine' AllReadyH.cons (o := _) ?ho12 (fun K hK => ?st12) AllReadyH.nil
      case ho12 => simp only [List.getElem?_toArray, List.getElem?_cons_succ, List.getElem?_cons_zero]; rfl
      case st12 =>
        go_simp
        refine hK.out _ _ (hS.alloc hS.size _) (fun hS => ?_)
        clear hK K
        try simp only [Act.put, List.setIfInBounds_toArray, List.set_cons_zero, List.set_cons_succ]
        have hb : Below Y2.heap.size Y2 (Y2.alloc (.cells #[.slice (some ⟨g1, 0, none⟩) 15 d1, .slice (some ⟨g2, 0, none⟩) 3 d2] 77)) := chain0 _ _
        have kk : Blk (Y2.alloc (.cells #[.slice (some ⟨g1, 0, none⟩) 15 d1, .slice (some ⟨g2, 0, none⟩) 3 d2] 77)) Y2.heap.size 77 [.slice (some ⟨g1, 0, none⟩) 15 d1, .slice (some ⟨g2, 0, none⟩) 3 d2] := Blk.new Y2 _ _
        replace HX1 := Lib.hid (fun k x hk => (hb.cell (p := ⟨g1, k, none⟩) hg1).trans (HX1.out k x hk))
        replace hg1 := Nat.lt_of_lt_of_le hg1 hb.size
        replace HX2 := Lib.hid (fun k x hk => (hb.cell (p := ⟨g2, k, none⟩) hg2).trans (HX2.out k x hk))
        replace hg2 := Nat.lt_of_lt_of_le hg2 hb.size
        clear hb
        generalize (Y2.alloc (.cells #[.slice (some ⟨g1, 0, none⟩) 15 d1, .slice (some ⟨g2, 0, none⟩) 3 d2] 77)) = Y3 at *
        generalize Y2.heap.size = gk at *
        refine wpAnyH_ready (rs := [12]) (by kernel_rfl) (by simp) ?_
        refine' AllReadyH.cons (o := _) ?ho13 (fun K hK => ?st13) AllReadyH.nil
        case ho13 => simp only [List.getElem?_toArray, List.getElem?_cons_succ, List.getElem?_cons_zero]; rfl
        case st13 =>
          go_simp
          refine (concatT_any gk g1 15 d1 g2 3 d2 (zs1.map tv) (zs2.map tv) (by rw [List.length_map, HQL.out]) (by rw [List.length_map, HPL.out]) (by omega) (by omega) (by omega) (by omega) Y3 kk hg1 hg2 (fun k x hk => by rw [List.getElem?_map] at hk; obtain ⟨y, hy, rfl⟩ := Option.map_eq_some_iff.1 hk; exact HX1.out k y hy) (fun k x hk => by rw [List.getElem?_map] at hk; obtain ⟨y, hy, rfl⟩ := Option.map_eq_some_iff.1 hk; exact HX2.out k y hy) (tv_cells zs1) (tv_cells zs2)).mono ?_
          rintro e Y4 ⟨v4, rfl, hown4, hb⟩
          rw [← List.map_append, ← HSL.out] at hown4
          obtain ⟨g4, d4, rfl, hg4, hx4⟩ := textCells HGL.out (by omega) hown4
          have hd4 : 18 ≤ d4 := by
            obtain ⟨_, h0 | ⟨g', cap', cur', e', _, _, hnc, _⟩⟩ := hown4
            · exact absurd h0.2 (by decide)
            · cases e'; exact hnc
          have HX4 := Lib.hid hx4
          clear hx4 hown4
          refine hK.out _ _ (hS.trans (hb.mono hS.size)) (fun hS => ?_)
          clear hK K
          try simp only [Act.put, List.setIfInBounds_toArray, List.set_cons_zero, List.set_cons_succ]
          clear hb kk HX1 HX2 hg1 hg2
          refine wpAnyH_ready (rs := [13]) (by kernel_rfl) (by simp) ?_
          refine' AllReadyH.cons (o := _) ?ho14 (fun K hK => ?st14) AllReadyH.nil
          case ho14 => simp only [List.getElem?_toArray, List.getElem?_cons_succ, List.getElem?_cons_zero]; rfl
          case st14 =>
            go_simp
            refine hK.out _ _ hS (fun hS => ?_)
            clear hK K
            try simp only [Act.put, List.setIfInBounds_toArray, List.set_cons_zero, List.set_cons_succ]
            refine wpAnyH_done (by kernel_rfl) ?_ _
            go_wp2_with fail
            have hBY := hS.size
            have C0 := (hS.cell (p := ⟨B, 0, none⟩) hbw).trans c0
            have C1 := (hS.cell (p := ⟨B, 1, none⟩) hbw).trans c1
            have KR : Blk Y4 R 43 [.string ⟨#[]⟩, .int .i64 0] := kr.below hS hrw
            have hbW : B < Y4.heap.size := by omega
            have hrW : R < Y4.heap.size := by omega
            have hB4 : Below B w Y4 := hb0.trans (hS.mono (by rw [← hBk]; exact hb0.size))
            clear hS hBY
            refine wp_region_held_drew (S := fun W => Below Y4.heap.size Y4 W) hmx (Below.refl _ Y4).drew ?_
            intro hS
            generalize Y4.drew = V at *
            refine' wpAnyH_take (i := 0) (oi := _) (v := _) ?hi15 (by kernel_rfl) (by kernel_rfl) (by kernel_rfl) ?hQ15 (Or.inl ⟨?hw15, ?hy15⟩) hS ?rest15
            case hi15 => simp only [List.getElem?_toArray, List.getElem?_cons_zero]; rfl
            case hQ15 => exact fun _ _ _ h => h
            case hw15 => rfl
            case hy15 => intro W' hS'; go_simp; with_reducible rfl
            try simp only [Act.put, List.setIfInBounds_toArray, List.set_cons_zero, List.set_cons_succ]
            refine' wpAnyH_take (i := 1) (oi := _) (v := _) ?hi16 (by kernel_rfl) (by kernel_rfl) (by kernel_rfl) ?hQ16 (Or.inl ⟨?hw16, ?hy16⟩) hS ?rest16
            case hi16 => simp only [List.getElem?_toArray, List.getElem?_cons_succ, List.getElem?_cons_zero]; rfl
            case hQ16 => exact fun _ _ _ h => h
            case hw16 => rfl
            case hy16 => intro W' hS'; have hc := (hS'.cell (p := ⟨B, 1, none⟩) hbW).trans C1; go_simp; with_reducible rfl
            try simp only [Act.put, List.setIfInBounds_toArray, List.set_cons_zero, List.set_cons_succ]
            refine' wpAnyH_take (i := 4) (oi := _) (v := _) ?hi17 (by kernel_rfl) (by kernel_rfl) (by kernel_rfl) ?hQ17 (Or.inl ⟨?hw17, ?hy17⟩) hS ?rest17
            case hi17 => simp only [List.getElem?_toArray, List.getElem?_cons_succ, List.getElem?_cons_zero]; rfl
            case hQ17 => exact fun _ _ _ h => h
            case hw17 => rfl
            case hy17 => intro W' hS'; go_simp; with_reducible rfl
            try simp only [Act.put, List.setIfInBounds_toArray, List.set_cons_zero, List.set_cons_succ]
            refine wpAnyH_ready (rs := [2]) (by kernel_rfl) (by simp) ?_
            refine' AllReadyH.cons (o := _) ?ho18 (fun K hK => ?st18) AllReadyH.nil
            case ho18 => simp only [List.getElem?_toArray, List.getElem?_cons_succ, List.getElem?_cons_zero]; rfl
            case st18 =>
              go_simp
              refine (HNum.out _).mono ?_
              rintro e V1 ⟨v5, rfl, hown5, hb⟩
              rw [H1'.out] at hown5
              have hv5 := (BSl.of_own hown5).mono (Nat.zero_le _) (Nat.le_refl _)
              obtain ⟨a5, d5, rfl⟩ := bsl_slice hv5
              change BSl 0 V1.heap.size V1 (.slice a5 1 d5) [UInt8.ofNat n] at hv5
              clear hown5
              refine hK.out _ _ (hS.trans (hb.mono hS.size)) (fun hS => ?_)
              clear hK K
              try simp only [Act.put, List.setIfInBounds_toArray, List.set_cons_zero, List.set_cons_succ]
              replace HX4 := Lib.hid (fun k x hk => (hS.cell (p := ⟨g4, k, none⟩) hg4).trans (HX4.out k x hk))
              have hg5 := Nat.lt_of_lt_of_le hg4 hS.size
              clear hb
              refine wpAnyH_mono (S' := fun W => Below V1.heap.size V1 W) (fun W h => hS.trans (h.mono hS.size)) _ _ _ _ ?_
              have hS0 := hS
              replace hS : Below V1.heap.size V1 V1 := Below.refl _ _
              refine' wpAnyH_take (i := 3) (oi := _) (v := _) ?hi19 (by kernel_rfl) (by kernel_rfl) (by kernel_rfl) ?hQ19 (Or.inl ⟨?hw19, ?hy19⟩) hS ?rest19
              case hi19 => simp only [List.getElem?_toArray, List.getElem?_cons_succ, List.getElem?_cons_zero]; rfl
              case hQ19 => exact fun _ _ _ h => h
              case hw19 => rfl
              case hy19 => intro W' hS'; have hcv := run_string (P := Tryz.prog) 35 5 9 Tryz.underlying35 Tryz.underlying5 Tryz.underlying9 W' (hv5.below hS' (Nat.le_refl _)); rw [HO.out] at hcv; go_simp; with_reducible rfl
              try simp only [Act.put, List.setIfInBounds_toArray, List.set_cons_zero, List.set_cons_succ]
              clear hv5
              refine wpAnyH_ready (rs := [5]) (by kernel_rfl) (by simp) ?_
              refine' AllReadyH.cons (o := _) ?ho20 (fun K hK => ?st20) AllReadyH.nil
              case ho20 => simp only [List.getElem?_toArray, List.getElem?_cons_succ, List.getElem?_cons_zero]; rfl
              case st20 =>
                go_simp
                have hj := joinAll Z g4 d4 V1 hg5 (by rw [HGL.out]; omega) (by rw [HGL.out]; exact hd4) HM.out HX4.out
                rw [HGL.out, HCZ.out] at hj
                refine hj.mono ?_
                rintro e V2 ⟨rfl, hb⟩
                refine hK.out _ _ hb (fun hS => ?_)
                clear hK K
                try simp only [Act.put, List.setIfInBounds_toArray, List.set_cons_zero, List.set_cons_succ]
                clear hb HX4
                have hc1 := HC1.out
                refine' wpAnyH_take (i := 6) (oi := _) (v := _) ?hi21 (by kernel_rfl) (by kernel_rfl) (by kernel_rfl) ?hQ21 (Or.inl ⟨?hw21, ?hy21⟩) hS ?rest21
                case hi21 => simp only [List.getElem?_toArray, List.getElem?_cons_succ, List.getElem?_cons_zero]; rfl
                case hQ21 => exact fun _ _ _ h => h
                case hw21 => rfl
                case hy21 => intro W' hS'; go_simp; with_reducible rfl
                try simp only [Act.put, List.setIfInBounds_toArray, List.set_cons_zero, List.set_cons_succ]
                refine wpAnyH_ready (rs := [7]) (by kernel_rfl) (by simp) ?_
                refine' AllReadyH.cons (o := _) ?ho22 (fun K hK => ?st22) AllReadyH.nil
                case ho22 => simp only [List.getElem?_toArray, List.getElem?_cons_succ, List.getElem?_cons_zero]; rfl
                case st22 =>
                  go_simp
                  refine hK.out _ _ hS (fun hS => ?_)
                  clear hK K
                  try simp only [Act.put, List.setIfInBounds_toArray, List.set_cons_zero, List.set_cons_succ]
                  refine wpAnyH_done (by kernel_rfl) ?_ _
                  rw [← hp.out]
                  have hB5 : Below B w V2 := hB4.trans ((hS0.trans (hS.mono hS0.size)).mono (by omega))
                  replace C0 := ((hS0.trans (hS.mono hS0.size)).cell (p := ⟨B, 0, none⟩) hbW).trans C0
                  replace C1 := ((hS0.trans (hS.mono hS0.size)).cell (p := ⟨B, 1, none⟩) hbW).trans C1
                  replace KR : Blk V2 R 43 [.string ⟨#[]⟩, .int .i64 0] := KR.below (hS0.trans (hS.mono hS0.size)) hrW
                  have hbV : B < V2.heap.size := Nat.lt_of_lt_of_le hbW (hS0.trans (hS.mono hS0.size)).size
                  clear hS hS0 hB4 hg5 hc1
                  have hwn : IntKind.i64.wrap ((n : Int) + 1) = (n : Int) + 1 := by rw [IntKind.wrap_i64]; have := HN.out; omega
                  generalize hsg : sigB s n l = sg at *
                  have HSB := Lib.hid hsg
                  clear hsg
                  go_wp2_with fail
                  refine wp_region_held_drew (S := fun W => W.cell? ⟨B, 0, none⟩ = some (.string s) ∧ W.cell? ⟨B, 1, none⟩ = some (.int .i64 (n : Int))) hmx ⟨C0, C1⟩ ?_
                  intro hS
                  replace hB5 : Below B w V2.drew := hB5.drew
                  replace KR : Blk V2.drew R 43 [.string ⟨#[]⟩, .int .i64 0] := KR
                  generalize V2.drew = U at *
                  refine' wpAnyH_take (i := 0) (oi := _) (v := _) ?hi23 (by kernel_rfl) (by kernel_rfl) (by kernel_rfl) ?hQ23 (Or.inl ⟨?hw23, ?hy23⟩) hS ?rest23
                  case hi23 => simp only [List.getElem?_toArray, List.getElem?_cons_zero]; rfl
                  case hQ23 => exact fun _ _ _ h => h
                  case hw23 => rfl
                  case hy23 => intro W' hS'; go_simp; with_reducible rfl
                  try simp only [Act.put, List.setIfInBounds_toArray, List.set_cons_zero, List.set_cons_succ]
                  refine' wpAnyH_take (i := 1) (oi := _) (v := _) ?hi24 (by kernel_rfl) (by kernel_rfl) (by kernel_rfl) ?hQ24 (Or.inl ⟨?hw24, ?hy24⟩) hS ?rest24
                  case hi24 => simp only [List.getElem?_toArray, List.getElem?_cons_succ, List.getElem?_cons_zero]; rfl
                  case hQ24 => exact fun _ _ _ h => h
                  case hw24 => rfl
                  case hy24 => intro W' hS'; go_simp; with_reducible rfl
                  try simp only [Act.put, List.setIfInBounds_toArray, List.set_cons_zero, List.set_cons_succ]
                  refine' wpAnyH_take (i := 2) (oi := _) (v := _) ?hi25 (by kernel_rfl) (by kernel_rfl) (by kernel_rfl) ?hQ25 (Or.inl ⟨?hw25, ?hy25⟩) hS ?rest25
                  case hi25 => simp only [List.getElem?_toArray, List.getElem?_cons_succ, List.getElem?_cons_zero]; rfl
                  case hQ25 => exact fun _ _ _ h => h
                  case hw25 => rfl
                  case hy25 => intro W' hS'; have hc0 := hS'.1; have hc1 := hS'.2; go_simp; with_reducible rfl
                  try simp only [Act.put, List.setIfInBounds_toArray, List.set_cons_zero, List.set_cons_succ]
                  refine' wpAnyH_take (i := 3) (oi := _) (v := _) ?hi26 (by kernel_rfl) (by kernel_rfl) (by kernel_rfl) ?hQ26 (Or.inl ⟨?hw26, ?hy26⟩) hS ?rest26
                  case hi26 => simp only [List.getElem?_toArray, List.getElem?_cons_succ, List.getElem?_cons_zero]; rfl
                  case hQ26 => exact fun _ _ _ h => h
                  case hw26 => rfl
                  case hy26 => intro W' hS'; go_simp; with_reducible rfl
                  try simp only [Act.put, List.setIfInBounds_toArray, List.set_cons_zero, List.set_cons_succ]
                  refine' wpAnyH_take (i := 4) (oi := _) (v := _) ?hi27 (by kernel_rfl) (by kernel_rfl) (by kernel_rfl) ?hQ27 (Or.inl ⟨?hw27, ?hy27⟩) hS ?rest27
                  case hi27 => simp only [List.getElem?_toArray, List.getElem?_cons_succ, List.getElem?_cons_zero]; rfl
                  case hQ27 => exact fun _ _ _ h => h
                  case hw27 => rfl
                  case hy27 => intro W' hS'; have hc0 := hS'.1; have hc1 := hS'.2; go_simp; with_reducible rfl
                  try simp only [Act.put, List.setIfInBounds_toArray, List.set_cons_zero, List.set_cons_succ]
                  refine' wpAnyH_take (i := 5) (oi := _) (v := _) ?hi28 (by kernel_rfl) (by kernel_rfl) (by kernel_rfl) ?hQ28 (Or.inl ⟨?hw28, ?hy28⟩) hS ?rest28
                  case hi28 => simp only [List.getElem?_toArray, List.getElem?_cons_succ, List.getElem?_cons_zero]; rfl
                  case hQ28 => exact fun _ _ _ h => h
                  case hw28 => rfl
                  case hy28 => intro W' hS'; go_simp; with_reducible rfl
                  try simp only [Act.put, List.setIfInBounds_toArray, List.set_cons_zero, List.set_cons_succ]
                  refine' wpAnyH_take (i := 6) (oi := _) (v := _) ?hi29 (by kernel_rfl) (by kernel_rfl) (by kernel_rfl) ?hQ29 (Or.inl ⟨?hw29, ?hy29⟩) hS ?rest29
                  case hi29 => simp only [List.getElem?_toArray, List.getElem?_cons_succ, List.getElem?_cons_zero]; rfl
                  case hQ29 => exact fun _ _ _ h => h
                  case hw29 => rfl
                  case hy29 => intro W' hS'; go_simp; with_reducible rfl
                  try simp only [Act.put, List.setIfInBounds_toArray, List.set_cons_zero, List.set_cons_succ]
                  refine' wpAnyH_take (i := 7) (oi := _) (v := _) ?hi30 (by kernel_rfl) (by kernel_rfl) (by kernel_rfl) ?hQ30 (Or.inl ⟨?hw30, ?hy30⟩) hS ?rest30
                  case hi30 => simp only [List.getElem?_toArray, List.getElem?_cons_succ, List.getElem?_cons_zero]; rfl
                  case hQ30 => exact fun _ _ _ h => h
                  case hw30 => rfl
                  case hy30 => intro W' hS'; go_simp; with_reducible rfl
                  try simp only [Act.put, List.setIfInBounds_toArray, List.set_cons_zero, List.set_cons_succ]
                  refine wpAnyH_ready (rs := [8]) (by kernel_rfl) (by simp) ?_
                  refine' AllReadyH.cons (o := _) ?ho31 (fun K hK => ?st31) AllReadyH.nil
                  case ho31 => simp only [List.getElem?_toArray, List.getElem?_cons_succ, List.getElem?_cons_zero]; rfl
                  case st31 =>
                    have k0 : U.cell? ⟨R, 0, none⟩ = some (.string ⟨#[]⟩) := KR.cell 0
                    have k1 : U.cell? ⟨R, 1, none⟩ = some (.int .i64 0) := KR.cell 1
                    have f0 := KR.frozen 0
                    have f1 := KR.frozen 1
                    go_simp
                    have hkR := (KR.set 0 (.string s)).set 1 (.int .i64 ((n : Int) + 1))
                    have hbR : Below B w ((U.setCell ⟨R, 0, none⟩ (.string s)).setCell ⟨R, 1, none⟩ (.int .i64 ((n : Int) + 1))) := (hB5.setCell (p := ⟨R, 0, none⟩) HRB.out _).setCell (p := ⟨R, 1, none⟩) HRB.out _
                    have hS1 : ((U.setCell ⟨R, 0, none⟩ (.string s)).setCell ⟨R, 1, none⟩ (.int .i64 ((n : Int) + 1))).cell? ⟨B, 0, none⟩ = some (.string s) ∧ ((U.setCell ⟨R, 0, none⟩ (.string s)).setCell ⟨R, 1, none⟩ (.int .i64 ((n : Int) + 1))).cell? ⟨B, 1, none⟩ = some (.int .i64 (n : Int)) := ⟨(World.cell?_of_block (a := ⟨B, 0, none⟩) ((Below.heap_setCell _ _ _ B HBR.out).trans (Below.heap_setCell _ _ _ B HBR.out))).trans hS.1, (World.cell?_of_block (a := ⟨B, 1, none⟩) ((Below.heap_setCell _ _ _ B HBR.out).trans (Below.heap_setCell _ _ _ B HBR.out))).trans hS.2⟩
                    refine hK.out _ _ hS1 (fun hS => ?_)
                    clear hK K hS1 k0 k1 f0 f1
                    try simp only [Act.put, List.setIfInBounds_toArray, List.set_cons_zero, List.set_cons_succ]
                    generalize World.setCell (World.setCell U ⟨R, 0, none⟩ (.string s)) ⟨R, 1, none⟩ (.int .i64 ((n : Int) + 1)) = U2 at *
                    refine' wpAnyH_take (i := 9) (oi := _) (v := _) ?hi32 (by kernel_rfl) (by kernel_rfl) (by kernel_rfl) ?hQ32 (Or.inl ⟨?hw32, ?hy32⟩) hS ?rest32
                    case hi32 => simp only [List.getElem?_toArray, List.getElem?_cons_succ, List.getElem?_cons_zero]; rfl
                    case hQ32 => exact fun _ _ _ h => h
                    case hw32 => rfl
                    case hy32 => intro W' hS'; go_simp; with_reducible rfl
                    try simp only [Act.put, List.setIfInBounds_toArray, List.set_cons_zero, List.set_cons_succ]
                    refine wpAnyH_done (by kernel_rfl) ?_ _
                    have r0 : U2.cell? ⟨R, 0, none⟩ = some (.string s) := hkR.cell 0
                    have r1 : U2.cell? ⟨R, 1, none⟩ = some (.int .i64 ((n : Int) + 1)) := hkR.cell 1
                    go_wp2_with fail
                    exact bodyPost_ret (v := .tuple #[.string sg, .agg #[.string s, .int .i64 ((n : Int) + 1)], .int .i64 0]) (by simp [results, Tryz.results39, go_sem, r0, r1]) rfl ⟨by rw [HSB.out], by rw [hBk]; exact hbR⟩

end Go.Proofs.YtiibeahgleaonaaGreat
