/- Own text: lists of numbers, pages and owned rows in memory; parts of texts. the walk of the document's Ints. -/
import Derived.Test.YtjkamannjgcmiaaDoorG1x
import Derived.Test.YtjkamannjgcmiaaDoorP15back
import Derived.Test.YtjkamannjgcmiaaDoorRows
import Derived.Below
import Derived.WalkKit
import Derived.Deep.OwnRows
import Derived.ArgAppend
import Derived.Maps.AppendAt
import Derived.Laws.OwnMore
import Derived.OneCell
import Derived.RegionTactic
import Derived.Lib.SmallJoins
import Derived.Deep.QuietTactic
import Derived.BigQuiet
import Derived.Outline
import Derived.Deep.RegionWith
import Derived.Deep.RegionHeld3
import Derived.BigRegion
import Derived.OwnWalk
import Derived.Deep.Cut
import Derived.Laws.Tables
import Derived.Laws.CopyOwn
namespace Go.Proofs.YtjkamannjgcmiaaDoor
open Go.RowKit
set_option linter.unusedSimpArgs false
set_option linter.unusedVariables false
/-- A list of numbers in memory. -/
structure IntsAt (w : World) (ao : Option Addr) (l : List Int) : Prop where
  len : l.length ≤ 17592186044415
  num : ∀ n ∈ l, -9223372036854775808 ≤ n ∧ n ≤ 9223372036854775807
  lies : 0 < l.length → ∃ b off, ao = some ⟨b, off, none⟩ ∧ ∀ j, j < l.length → w.cell? ⟨b, off + j, none⟩ = some (.int .i64 (l.getD j 0))
theorem lt_cell {w : World} {a : Addr} {v : Value} (h : w.cell? a = some v) : a.block < w.heap.size := World.block_lt_of_cell? w a h
theorem IntsAt.keep {w w' : World} {ao : Option Addr} {l : List Int} (h : IntsAt w ao l) (hb : ∀ k, k < w.heap.size → w'.heap[k]? = w.heap[k]?) : IntsAt w' ao l := by
  refine ⟨h.len, h.num, fun h0 => ?_⟩
  obtain ⟨b, off, e, hc⟩ := h.lies h0
  refine ⟨b, off, e, fun j hj => ?_⟩
  have h1 := hc j hj
  have h2 := lt_cell h1
  rw [← h1]
  exact World.cell?_of_block (w := w) (hb b h2)
theorem IntsAt.below {w w' : World} {ao : Option Addr} {xs : List Int} (h : IntsAt w ao xs) (hb : Below w.heap.size w w') : IntsAt w' ao xs := h.keep hb.block
theorem IntsAt.drewN {w : World} {ao : Option Addr} {xs : List Int} (h : IntsAt w ao xs) (n : Nat) : IntsAt (w.drewN n) ao xs := h.keep fun k _ => by simp
theorem IntsAt.stays {w w' : World} {ao : Option Addr} {xs : List Int} (h : IntsAt w ao xs) {S : Nat → Prop} (hS : Stays S w w') (hn : ∀ b, blockOf ao = some b → ¬ S b) : IntsAt w' ao xs := by
  refine ⟨h.len, h.num, fun h0 => ?_⟩
  obtain ⟨b, off, e, hc⟩ := h.lies h0
  refine ⟨b, off, e, fun j hj => ?_⟩
  have h1 := hc j hj
  have h2 := lt_cell h1
  rw [← h1]
  exact World.cell?_of_block (w := w) (hS.block b h2 (hn b (by rw [e]; rfl)))
theorem IntsAt.get {w : World} {b off : Nat} {l : List Int} (h : IntsAt w (some ⟨b, off, none⟩) l) (j : Nat) (hj : j < l.length) : w.cell? ⟨b, off + j, none⟩ = some (.int .i64 (l.getD j 0)) := by
  obtain ⟨b', off', e, hc⟩ := h.lies (by omega)
  cases e
  exact hc j hj
theorem IntsAt.rng {w : World} {ao : Option Addr} {l : List Int} (h : IntsAt w ao l) (j : Nat) : -9223372036854775808 ≤ l.getD j 0 ∧ l.getD j 0 ≤ 9223372036854775807 := by
  by_cases hj : j < l.length
  · rw [List.getD_eq_getElem?_getD, List.getElem?_eq_getElem hj]
    exact h.num _ (List.getElem_mem hj)
  · rw [List.getD_eq_getElem?_getD, List.getElem?_eq_none (by omega)]
    decide
theorem IntsAt.addr {w : World} {ao : Option Addr} {l : List Int} (h : IntsAt w ao l) (h0 : 0 < l.length) : ∃ b off, ao = some ⟨b, off, none⟩ := by
  obtain ⟨b, off, e, _⟩ := h.lies h0
  exact ⟨b, off, e⟩
theorem getD_part (l : List Int) (f n j : Nat) (hj : j < n) : ((l.drop f).take n).getD j 0 = l.getD (f + j) 0 := by
  rw [List.getD_eq_getElem?_getD, List.getD_eq_getElem?_getD, List.getElem?_take_of_lt hj, List.getElem?_drop]
/-- a part of a list lies in it. -/
theorem IntsAt.part {w : World} {ao : Option Addr} {l : List Int} (h : IntsAt w ao l) (f n : Nat) (hf : f + n ≤ l.length) (xo : Option Addr) (hx : ∀ b off, ao = some ⟨b, off, none⟩ → 0 < n → xo = some ⟨b, off + f, none⟩) : IntsAt w xo ((l.drop f).take n) := by
  have hl : ((l.drop f).take n).length = n := by rw [List.length_take, List.length_drop]; omega
  refine ⟨by rw [hl]; have := h.len; omega, fun x hx => h.num x (List.mem_of_mem_drop (List.mem_of_mem_take hx)), fun h0 => ?_⟩
  rw [hl] at h0
  obtain ⟨b, off, e, hc⟩ := h.lies (by omega)
  refine ⟨b, off + f, hx b off e h0, fun j hj => ?_⟩
  rw [hl] at hj
  rw [getD_part l f n j hj, show off + f + j = off + (f + j) from by omega]
  exact hc _ (by omega)

def intsC (l : List Int) : List Value := l.map fun n => Value.int .i64 n
theorem intsC_length (l : List Int) : (intsC l).length = l.length := by simp [intsC]
theorem intsC_one (l : List Int) : ∀ u ∈ intsC l, u.oneCell' = true := by
  intro u hu
  obtain ⟨n, _, rfl⟩ := List.mem_map.1 hu
  rfl
theorem intsC_append (l m : List Int) : intsC (l ++ m) = intsC l ++ intsC m := by simp [intsC]

theorem below_drewN (w : World) (n : Nat) : Below w.heap.size w (w.drewN n) := ⟨rfl, rfl, rfl, Nat.le_refl _, fun _ _ => rfl⟩
theorem Below.drewN {B : Nat} {a w : World} (h : Below B a w) (n : Nat) : Below B a (w.drewN n) := ⟨h.os, h.tape, h.output, h.size, h.block⟩
theorem heap_two (w : World) (A B : Obj) : ((w.alloc A).alloc B).heap[w.heap.size]? = some A := by
  have hb : Below (w.heap.size + 1) (w.alloc A) ((w.alloc A).alloc B) := (Below.refl _ _).alloc (by simp) _
  rw [hb.block _ (by omega)]; exact heap_alloc_new _ _
theorem results_one {fn : Func} {p : Tmp} {ty : TypeId} (h : fn.results = #[.cell p ty]) (tmps : Array Value) (P : Program) (w : World) :
    (results fn tmps).run P w = ((asAddr (tmps.getD p undef)).run P w).andThen fun a w₁ => (loadVar ty a).run P w₁ := by
  simp only [results, h]
  simp [Sem.run_bind, Result.andThen]
theorem results_two {fn : Func} {p t : Tmp} {ty : TypeId} (h : fn.results = #[.cell p ty, .tmp t]) (tmps : Array Value) (P : Program) (w : World) :
    (results fn tmps).run P w = ((asAddr (tmps.getD p undef)).run P w).andThen fun a w₁ => ((loadVar ty a).run P w₁).andThen fun x w₂ => .ok (.tuple #[x, tmps.getD t undef]) w₂ := by
  simp only [results, h]
  simp [Sem.run_bind, Result.andThen]
theorem grown_below {w w' : World} (h : Below w.heap.size w w') (row : Option Nat) : w.grownBy w' row := ⟨h.os, h.tape, h.output, h.size, fun k hk _ => h.block k hk⟩
theorem owns_below {w w' : World} {base : Nat} {e : TypeId} {size : Nat} {v : Value} {n : Nat} {xs : List Value} (h : w.ownsRow base e size v n xs) (hB : Below w.heap.size w w') : w'.ownsRow base e size v n xs :=
  h.kept (row := none) (grown_below hB none) (by cases hv : v.ownBlock <;> simp)
theorem grown_to {w w' : World} {row : Option Nat} {B : Nat} {w0 : World} (h : w.grownBy w' row) (hb : Below B w0 w) (hB : B ≤ w.heap.size) (hr : ∀ k, row = some k → B ≤ k) : Below B w0 w' :=
  hb.trans ⟨h.os, h.tape, h.output, h.size, fun k hk => h.block k (Nat.lt_of_lt_of_le hk hB) (fun e => by have := hr k e.symm; omega)⟩
theorem info_parts5 {P : Program} {e : TypeId} {z : Value} {s b : Nat} (h : (P.info? e).map (fun i => (i.zero, i.size, i.bytes)) = some (some z, s, b)) : ∃ i, P.info? e = some i ∧ i.zero = some z ∧ i.size = s ∧ i.bytes = b := by
  cases hi : P.info? e with
  | none => rw [hi] at h; cases h
  | some i =>
    rw [hi] at h
    simp only [Option.map_some, Option.some.injEq, Prod.mk.injEq] at h
    exact ⟨i, rfl, h.1, h.2.1, h.2.2⟩
/-- Append to an owned row, of elements of any size. -/
theorem wpList_append_row {P : Program} (w : World) {ops : Array Oper} {rest : List Oper} {o : Oper} {a : Act} {Q : Exit → Act → World → Prop} (hgd : o.guard = none) (s x : Operand) (t : TypeId)
    (ho : o.op = .call { callee := .builtin .append, args := #[s, x], argTypes := #[t, t] })
    (base : Nat) (e : TypeId) (i : TypeInfo) (z : Value) (size bytes : Nat) (ht : P.underlying t = some (.slice e)) (hi : P.info? e = some i) (hz : i.zero = some z) (hsize : i.size = size) (hby : i.bytes = bytes) (hzs : z.cells.size = size) (hsz : 0 < size)
    (v : Value) (n : Nat) (xs : List Value) (hs : a.eval s = v) (hown : w.ownsRow base e size v n xs)
    (ad : Addr) (m c : Nat) (news : List Value) (hx : a.eval x = .slice (some ad) m c) (hl : news.length = m * size) (hnews : ∀ j u, news[j]? = some u → w.cell? (ad.add j) = some u) (h1 : ∀ u ∈ news, u.oneCell' = true)
    (h63 : n + m ≤ maxLen) (hbytes : (n + m) * bytes ≤ 140737488355328) (hbase : base ≤ w.heap.size)
    (h : ∀ v' w', Hid (w'.ownsRow base e size v' (n + m) (xs ++ news)) → Hid (w.grownBy w' v.ownBlock) → Hid (v'.ownBlock = v.ownBlock ∨ v'.ownBlock = some w.heap.size) → wpList P ops Q rest (a.put o.dst v') w') : wpList P ops Q (o :: rest) a w := by
  refine wpList_plain hgd fun K hK => ?_
  obtain ⟨v', w', hrun, r1, r2, _, r4⟩ := run_append_own_at (P := P) w base t o.type e i z size bytes ht hi hz hsize hby hzs hsz v n xs hown ad m c news hl hnews h1 h63 hbytes hbase
  unfold Oper.wp
  simp [execOp, ho, resolve, invoke, builtin, hs, hx, hrun, Result.andThen]
  exact hK _ _ (h v' w' r1 r2 r4)
/-- Append of a row to a row that the call owns, in a region that draws. -/
theorem step_append_own {P : Program} (w : World) {ops : Array Oper} {o : Oper} {a : Act} {K : Act → World → Prop} {Q : Exit → Act → World → Prop} {E : Prop} (hgd : o.guard = none) (s x : Operand) (t : TypeId)
    (ho : o.op = .call { callee := .builtin .append, args := #[s, x], argTypes := #[t, t] })
    (base : Nat) (e : TypeId) (i : TypeInfo) (z : Value) (size bytes : Nat) (ht : P.underlying t = some (.slice e)) (hi : P.info? e = some i) (hz : i.zero = some z) (hsize : i.size = size) (hby : i.bytes = bytes) (hzs : z.cells.size = size) (hsz : 0 < size)
    (v : Value) (n : Nat) (xs : List Value) (hs : a.eval s = v) (hown : w.ownsRow base e size v n xs)
    (ad : Addr) (m c : Nat) (news : List Value) (hx : a.eval x = .slice (some ad) m c) (hl : news.length = m * size) (hnews : ∀ j u, news[j]? = some u → w.cell? (ad.add j) = some u) (h1 : ∀ u ∈ news, u.oneCell' = true)
    (h63 : n + m ≤ maxLen) (hbytes : (n + m) * bytes ≤ 140737488355328) (hbase : base ≤ w.heap.size)
    (h : ∀ v' w', Hid (w'.ownsRow base e size v' (n + m) (xs ++ news)) → Hid (w.grownBy w' v.ownBlock) → K (a.put o.dst v') w') : if Region.wanted o (yielded ops a.tmps) = true then Oper.wp P o a w K Q else E := by
  have hw : Region.wanted o (yielded ops a.tmps) = true := by simp [Region.wanted, hgd]
  rw [if_pos hw]
  obtain ⟨v', w', hrun, r1, r2, _, r4⟩ := run_append_own_at (P := P) w base t o.type e i z size bytes ht hi hz hsize hby hzs hsz v n xs hown ad m c news hl hnews h1 h63 hbytes hbase
  unfold Oper.wp execOp
  simp only [ho, resolve, invoke, builtin, Sem.run_bind, Sem.run_pure, Result.andThen_ok, List.map_toArray, List.map_cons, List.map_nil, hs, hx, hrun]
  exact h v' w' r1 r2
theorem slice_upto (s : ByteArray) (n : Nat) (h : n ≤ s.size) (w : World) : (Instr.slice 9 (.string s) none (some (.int .i64 (n : Int))) none).run Tryd.prog w = .ok (.string (s.extract 0 n)) w := by
  have := run_slice_string_h (P := Tryd.prog) (w := w) (t := 9) (s := s) Tryd.underlying9 .i64 (n : Int) (by omega) (by omega)
  simpa using this
theorem slice_from (s : ByteArray) (n : Nat) (h : n ≤ s.size) (w : World) : (Instr.slice 9 (.string s) (some (.int .i64 (n : Int))) none none).run Tryd.prog w = .ok (.string (s.extract n s.size)) w := by
  have := run_slice_string_l (P := Tryd.prog) (w := w) (t := 9) (s := s) Tryd.underlying9 .i64 (n : Int) (by omega) (by omega)
  simpa using this
theorem slice_run (s : ByteArray) (a b : Nat) (h1 : a ≤ b) (h2 : b ≤ s.size) (w : World) : (Instr.slice 9 (.string s) (some (.int .i64 (a : Int))) (some (.int .i64 (b : Int))) none).run Tryd.prog w = .ok (.string (s.extract a b)) w := by
  have := run_slice_string (P := Tryd.prog) w 9 s .i64 .i64 (a : Int) (b : Int) Tryd.underlying9 (by omega) (by omega) (by omega)
  simpa using this
theorem IntsAt.at {w : World} {ao : Option Addr} {l : List Int} (h : IntsAt w ao l) (k : Nat) (hk : k < l.length) :
    ∃ b off, ao = some ⟨b, off, none⟩ ∧ (∀ w', Below w.heap.size w w' → w'.cell? ⟨b, off + k, none⟩ = some (.int .i64 (l.getD k 0))) := by
  obtain ⟨b, off, e, hc⟩ := h.lies (by omega)
  refine ⟨b, off, e, fun w' hb => ?_⟩
  have h1 := hc k hk
  rw [World.cell?_of_block (w := w) (hb.block b (lt_cell h1))]
  exact h1
theorem getD_mem (l : List Int) (k : Nat) (h : k < l.length) : l.getD k 0 ∈ l := by
  rw [List.getD_eq_getElem?_getD, List.getElem?_eq_getElem h]; exact List.getElem_mem h
theorem take_snoc (l : List Int) (k : Nat) (h : k < l.length) : l.take (k + 1) = l.take k ++ [l.getD k 0] := by
  rw [List.take_add_one, List.getElem?_eq_getElem h, List.getD_eq_getElem?_getD, List.getElem?_eq_getElem h]; rfl

theorem fz_of {w : World} {g : Nat} {cs : Array Value} {t : TypeId} (h : w.heap[g]? = some (.cells cs t (0, 0))) (j : Nat) : w.frozen? ⟨g, j, none⟩ = false := by simp [World.frozen?, h]
theorem bytesOf_ext (s : ByteArray) (a b : Nat) : bytesOf (s.extract a b) = seg (bytesOf s) a b := by
  unfold bytesOf seg
  rw [ByteArray.data_extract, Array.toList_extract, List.extract_eq_drop_take', List.map_drop, List.map_take]
theorem bytes_inj {a b : ByteArray} (h : bytesOf a = bytesOf b) : a = b := by rw [← S2.textOf_bytesOf a, h, S2.textOf_bytesOf]
theorem ext_len (s : ByteArray) (a b : Nat) (h1 : a ≤ b) (h2 : b ≤ s.size) : (s.extract a b).size = b - a := by
  rw [ByteArray.size_extract, Nat.min_eq_left h2]
theorem u8_at (s : ByteArray) (i : Nat) (h : i < s.size) : u8 (bytesOf s) i = (s[i]'h).toNat := by
  unfold u8
  rw [List.getD_eq_getElem?_getD, List.getElem?_eq_getElem (by rw [bytesOf_length]; exact h), Option.getD_some, bytesOf_get s i h]
theorem hid {p : Prop} (h : p) : Hid p := h
abbrev noS : Value := .slice none 0 0
/-- A page in memory: five cells. -/
abbrev pgC (p : Pg) (ao : Option Addr) (c : Nat) : List Value := [.int .i64 p.fl, .int .i64 p.se, .int .i64 p.sq, .int .i64 p.gr, .slice ao p.la.length c]
abbrev pgV (p : Pg) (ao : Option Addr) (c : Nat) : Value := .agg (pgC p ao c).toArray
structure PgAt (w : World) (p : Pg) (ao : Option Addr) (c : Nat) : Prop where
  la : IntsAt w ao p.la
  le : p.la.length ≤ c
  no : ao = none → c = 0
theorem PgAt.below {w w' : World} {p : Pg} {ao : Option Addr} {c : Nat} (h : PgAt w p ao c) (hB : Below w.heap.size w w') : PgAt w' p ao c := ⟨h.la.below hB, h.le, h.no⟩
/-- A box in memory. -/
structure Box (w : World) (g : Nat) (C : Array Value) (T : TypeId) : Prop where
  h : w.heap[g]? = some (.cells C T (0, 0))
section
variable {w w' : World} {g k : Nat} {C D : Array Value} {T : TypeId}
theorem Box.lt (h : Box w g C T) : g < w.heap.size := lt_of_block h.h
theorem Box.new (w : World) (C : Array Value) (T : TypeId) : Box (w.alloc (.cells C T)) w.heap.size C T := ⟨heap_alloc_new _ _⟩
theorem Box.keep (h : Box w g C T) (hb : Below w.heap.size w w') : Box w' g C T := ⟨(hb.block _ h.lt).trans h.h⟩
theorem Box.set (h : Box w g C T) (D : Array Value) : Box (w.setRow g D) g D T := ⟨setRow_heap _ _ _ _ _ _ h.h⟩
theorem Box.other (h : Box w g C T) (hk : g ≠ k) (D : Array Value) : Box (w.setRow k D) g C T := ⟨(setRow_other _ _ _ _ hk).trans h.h⟩
theorem Box.c (h : Box w g C T) (j : Nat) (v : Value) (hj : C[j]? = some v) : w.cell? ⟨g, j, none⟩ = some v := by rw [cell_of_row _ _ _ _ _ _ h.h]; exact hj
theorem Box.fz (h : Box w g C T) (j : Nat) : w.frozen? ⟨g, j, none⟩ = false := fz_of h.h j
theorem Box.drew (h : Box w g C T) : Box w.drew g C T := ⟨h.h⟩
end
theorem below_drew (w : World) : Below w.heap.size w w.drew := ⟨rfl, rfl, rfl, Nat.le_refl _, fun _ _ => rfl⟩
theorem below_new (w : World) (o : Obj) : Below w.heap.size w (w.alloc o) := (Below.refl _ _).alloc (Nat.le_refl _) _
theorem below_on {B : Nat} {w0 w w' : World} (h : Below B w0 w) (hB : B ≤ w.heap.size) (hb : Below w.heap.size w w') : Below B w0 w' := h.trans (hb.mono hB)
abbrev zeroP : Array Value := #[.int .i64 0, .int .i64 0, .int .i64 0, .int .i64 0, .slice none 0 0]
theorem info_page : (Tryd.prog.info? 49).map (·.size) = some 5 := by kernel_rfl
theorem info_page3 : (Tryd.prog.info? 49).map (fun i => (i.zero, i.size, i.bytes)) = some (some (.agg zeroP), 5, 56) := by kernel_rfl
/-- Pages in memory. -/
structure PgsAt (w : World) (ao : Option Addr) (l : List Pg) : Prop where
  lies : 0 < l.length → ∃ b off, ao = some ⟨b, off, none⟩ ∧ ∀ i p, l[i]? = some p → ∃ ap c, (∀ j v, (pgC p ap c)[j]? = some v → w.cell? ⟨b, off + i * 5 + j, none⟩ = some v) ∧ PgAt w p ap c
theorem PgsAt.nil (w : World) (ao : Option Addr) : PgsAt w ao [] := ⟨fun h => absurd h (by simp)⟩
theorem PgsAt.below {w w' : World} {ao : Option Addr} {l : List Pg} (h : PgsAt w ao l) (hB : Below w.heap.size w w') : PgsAt w' ao l := by
  refine ⟨fun h0 => ?_⟩
  obtain ⟨b, off, e, hc⟩ := h.lies h0
  refine ⟨b, off, e, fun i p hi => ?_⟩
  obtain ⟨ap, c, h1, h2⟩ := hc i p hi
  refine ⟨ap, c, fun j v hj => ?_, h2.below hB⟩
  have h3 := h1 j v hj
  rw [← h3]
  exact World.cell?_of_block (w := w) (hB.block b (lt_cell h3))
theorem PgsAt.at {w0 : World} {ao : Option Addr} {l : List Pg} (h : PgsAt w0 ao l) (i : Nat) (p : Pg) (hi : l[i]? = some p) :
    ∃ b off, ao = some ⟨b, off, none⟩ ∧ ∃ ap c, PgAt w0 p ap c ∧ ∀ w, Below w0.heap.size w0 w → w.cell? ⟨b, off + i * 5, none⟩ = some (.int .i64 p.fl) ∧ w.cell? ⟨b, off + i * 5 + 1, none⟩ = some (.int .i64 p.se) ∧ w.cell? ⟨b, off + i * 5 + 2, none⟩ = some (.int .i64 p.sq) ∧ w.cell? ⟨b, off + i * 5 + 3, none⟩ = some (.int .i64 p.gr) ∧ w.cell? ⟨b, off + i * 5 + 4, none⟩ = some (.slice ap p.la.length c) := by
  obtain ⟨b, off, e, hc⟩ := h.lies (by have := (List.getElem?_eq_some_iff.1 hi).1; omega)
  obtain ⟨ap, c, h1, h2⟩ := hc i p hi
  refine ⟨b, off, e, ap, c, h2, fun w hB => ?_⟩
  have k : ∀ j v, (pgC p ap c)[j]? = some v → w.cell? ⟨b, off + i * 5 + j, none⟩ = some v := fun j v hj => by
    have h3 := h1 j v hj
    rw [← h3]
    exact World.cell?_of_block (w := w0) (hB.block b (lt_cell h3))
  exact ⟨k 0 _ rfl, k 1 _ rfl, k 2 _ rfl, k 3 _ rfl, k 4 _ rfl⟩

end Go.Proofs.YtjkamannjgcmiaaDoor

namespace Go.Proofs.YtjkamannjgcmiaaDoor
open Go.RowKit
set_option linter.unusedSimpArgs false
set_option linter.unusedVariables false

theorem take_eq (l m : List Int) (k : Nat) (x : Int) (h : l.take k = m.take k) (h1 : l[k]? = some x) (h2 : m[k]? = some x) : l.take (k + 1) = m.take (k + 1) := by
  rw [List.take_add_one, List.take_add_one, h, h1, h2]
theorem getD_some (l : List Int) (k : Nat) (h : k < l.length) : l[k]? = some (l.getD k 0) := by
  rw [List.getD_eq_getElem?_getD, List.getElem?_eq_getElem h]
  rfl
set_option maxRecDepth 20000 in
set_option maxHeartbeats 1600000 in
theorem ints_any (l m : List Int) (a b : Option Addr) (c d : Nat) (w : World) (hl : IntsAt w a l) (hm : IntsAt w b m) :
    Calls Tryd.prog 17 #[.slice a l.length c, .slice b m.length d] w fun e w' => e = .returned (.bool (decide (l = m))) ∧ ∃ n, w' = w.drewN n := by
  have h1 := hl.len
  have h2 := hm.len
  have HL : Hid (IntsAt w a l) := hl
  have HM : Hid (IntsAt w b m) := hm
  clear hl hm
  by_cases hlen : l.length = m.length
  · have HE : Hid (l.length = m.length) := hlen
    rw [← hlen]
    clear hlen h2
    go_enter Tryd.func17, Tryd.ntmps17
    go_wp2_with fail
    go_loopw [5] (fun t wr => ∃ k n : Nat, k ≤ l.length ∧ t = .int .i64 (k : Int) ∧ wr = w.drewN n ∧ l.take k = m.take k) (fun t _ => l.length - (intOf t).toNat)
    case atStart => exact ⟨0, 0, Nat.zero_le _, rfl, rfl, rfl⟩
    case round =>
      obtain ⟨k, n, hk, rfl, hw, ht⟩ := hrel
      have HW : Hid (wr = w.drewN n) := hw
      have HT : Hid (l.take k = m.take k) := ht
      clear hw ht
      by_cases hlt : k < l.length
      · obtain ⟨b1, o1, rfl, q1⟩ := HL.out.at k hlt
        obtain ⟨b2, o2, rfl, q2⟩ := HM.out.at k (by rw [← HE.out]; exact hlt)
        have r1 := q1 wr (by rw [HW.out]; exact below_drewN _ _)
        have r2 := q2 wr (by rw [HW.out]; exact below_drewN _ _)
        have HX : Hid (l[k]? = some (l.getD k 0)) := getD_some l k hlt
        have HY : Hid (m[k]? = some (m.getD k 0)) := getD_some m k (by rw [← HE.out]; exact hlt)
        clear q1 q2
        generalize l.getD k 0 = x at *
        generalize m.getD k 0 = y at *
        by_cases hxy : x = y
        · subst hxy
          go_wp2_with fail
          go_quiet (fail)
          go_wp2_with fail
          go_roundw
          case rel => exact ⟨k + 1, n + nq, by omega, by go_num, by rw [HW.out, World.drewN_drewN], take_eq l m k x HT.out HX.out HY.out⟩
          case measure => simp [intOf]; omega
        · have hb : (x != y) = true := by rw [bne_iff_ne]; exact hxy
          have HD : Hid (decide (l = m) = false) := decide_eq_false (fun e => hxy (by have := HX.out; rw [e, HY.out] at this; injection this with this; exact this.symm))
          clear hxy
          go_wp2_with fail
          go_quiet (fail)
          go_wp2_with fail
          go_ret
          exact ⟨by rw [HD.out]; rfl, n + nq, by rw [HW.out, World.drewN_drewN]⟩
      · have HD : Hid (decide (l = m) = true) := decide_eq_true (by
          have := HT.out
          rw [List.take_of_length_le (by omega), List.take_of_length_le (by have := HE.out; omega)] at this
          exact this)
        go_wp2_with fail
        go_ret
        exact ⟨by rw [HD.out]; rfl, n, HW.out⟩
  · have hb : ((l.length : Int) != (m.length : Int)) = true := by rw [bne_iff_ne]; omega
    have HD : Hid (decide (l = m) = false) := decide_eq_false (fun e => hlen (by rw [e]))
    clear hlen HL HM
    go_enter Tryd.func17, Tryd.ntmps17
    go_wp2_with fail
    go_ret
    exact ⟨by rw [HD.out]; rfl, 0, rfl⟩

end Go.Proofs.YtjkamannjgcmiaaDoor
