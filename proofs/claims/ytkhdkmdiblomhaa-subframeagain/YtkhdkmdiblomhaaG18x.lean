/- Own text: lists of numbers in memory, and lists that a call makes. a subframe's recipe in memory; what the program's calls must do. the document's foretold; lists that are the same. the walks of Same and short. subframes' bits, how many; what is apart. the document's left. the document's whole and weights. the document's Fixed, Unfixed, Lpc and Unlpc. -/
import Derived.Test.YtkhdkmdiblomhaaG16x
import Derived.Test.YtkhdkmdiblomhaaG15x
import Derived.Test.YtkhdkmdiblomhaaRows
import Derived.Test.YtkhdkmdiblomhaaChecked
import Derived.Deep.Draws
import Derived.RegionTactic
import Derived.Deep.QuietTactic
import Derived.BigQuiet
import Derived.Outline
import Derived.WalkLawsBesides
import Derived.Below
import Derived.WalkKit
import Derived.Deep.OwnRows
import Derived.Deep.AppendLies
import Derived.Deep.RegionHeld3
import Derived.BigRegion
import Derived.Test.YtkhdkmdiblomhaaG17x
namespace Go.Proofs.Ytkhdkmdiblomhaa
open Go.RowKit
set_option linter.unusedSimpArgs false
set_option linter.unusedVariables false

theorem wrap_is (n : Int) : IntKind.i64.wrap n = wrap64 n := by unfold wrap64; exact IntKind.wrap_i64 n
theorem tmp_new (X : World) (v : Value) : (X.alloc (.cells #[v] 3)).heap[X.heap.size]? = some (.cells #[v] 3 (0, 0)) := heap_alloc_new _ _
theorem own_low {N : Nat} {e : TypeId} {z : Nat} {v : Value} {n : Nat} {xs : List Value} {w w' : World} (h : w.ownsRow N e z v n xs) (hb : Below w.heap.size w w') : w'.ownsRow N e z v n xs := by
  refine h.kept (row := none) ⟨hb.os, hb.tape, hb.output, hb.size, fun k hk _ => hb.block k hk⟩ ?_
  cases e : v.ownBlock with
  | none => exact .inl rfl
  | some g => exact .inr (fun h => by cases h)
theorem own_ints {N : Nat} {ao : Option Addr} {cap : Nat} {L : List Int} {w : World} (h : w.ownsRow N 3 1 (.slice ao L.length cap) L.length (intsC L)) (hl : L.length ≤ 17592186044415) (hn : ∀ n ∈ L, -9223372036854775808 ≤ n ∧ n ≤ 9223372036854775807) : IntsAt w ao L := by
  refine ⟨hl, hn, fun h0 => ?_⟩
  obtain ⟨g, c, e, _, _⟩ := h.form h0
  simp only [Value.slice.injEq, true_and] at e
  obtain ⟨rfl, rfl⟩ := e
  refine ⟨g, 0, rfl, fun j hj => ?_⟩
  rw [Nat.zero_add, h.cellAt j (by omega)]
  simp [intsC, List.getD_eq_getElem?_getD, List.getElem?_eq_getElem hj]
theorem int_info : ∃ i, Try.prog.info? 3 = some i ∧ i.zero = some (.int .i64 0) ∧ i.size = 1 ∧ i.bytes = 8 := by
  have h : (Try.prog.info? 3).map (fun i => (i.zero, i.size, i.bytes)) = some (some (.int .i64 0), 1, 8) := by kernel_rfl
  cases hq : Try.prog.info? 3 with
  | none => rw [hq] at h; cases h
  | some i =>
    rw [hq] at h
    simp only [Option.map_some, Option.some.injEq, Prod.mk.injEq] at h
    exact ⟨i, rfl, h.1, h.2.1, h.2.2⟩
theorem undI3 : Try.prog.underlying 22 = some (.slice 3) := by kernel_rfl
/-- A list that the call makes by append. -/
structure Out (w : World) (v : Value) (xs : List Int) (X : World) : Prop where
  own : X.ownsRow w.heap.size 3 1 v xs.length (intsC xs)
  below : Below w.heap.size w X
/-- append of any slice to an owned row. -/
theorem run_append_src {P : Program} (w : World) (base : Nat) (t ty e : TypeId) (i : TypeInfo) (z : Value) (bytes : Nat) (ht : P.underlying t = some (.slice e)) (hi : P.info? e = some i) (hz : i.zero = some z)
    (hsize : i.size = 1) (hby : i.bytes = bytes) (hzs : z.cells.size = 1)
    (v : Value) (n : Nat) (xs : List Value) (hown : w.ownsRow base e 1 v n xs)
    (xo : Option Addr) (m c : Nat) (news : List Value) (h0 : xo = none → m = 0 ∧ c = 0) (hl : news.length = m) (hnews : ∀ ad, xo = some ad → ∀ j u, news[j]? = some u → w.cell? (ad.add j) = some u) (h1 : ∀ u ∈ news, u.oneCell' = true)
    (h63 : n + m ≤ maxLen) (hbytes : (n + m) * bytes ≤ 140737488355328) (hbase : base ≤ w.heap.size) :
    ∃ v' w', (Builtin.append_ #[t, t] ty #[v, .slice xo m c]).run P w = .ok v' w' ∧ w'.ownsRow base e 1 v' (n + m) (xs ++ news) ∧ w.grownBy w' v.ownBlock ∧ (v'.ownBlock = v.ownBlock ∨ v'.ownBlock = some w.heap.size) := by
  cases xo with
  | none =>
    obtain ⟨rfl, rfl⟩ := h0 rfl
    obtain rfl : news = [] := List.eq_nil_of_length_eq_zero hl
    refine ⟨v, w, run_append_owned_none w base t ty e i 1 ht hi v n xs hown, ?_, ⟨rfl, rfl, rfl, Nat.le_refl _, fun _ _ _ => rfl⟩, .inl rfl⟩
    rw [List.append_nil]
    exact hown
  | some ad =>
    obtain ⟨v', w', hr, h2, h3, _, h5⟩ := run_append_own_at (P := P) w base t ty e i z 1 bytes ht hi hz hsize hby hzs (by decide) v n xs hown ad m c news (by omega) (hnews ad rfl) h1 h63 hbytes hbase
    exact ⟨v', w', hr, h2, h3, h5⟩

theorem wpList_append_src {P : Program} (w : World) {ops : Array Oper} {rest : List Oper} {o : Oper} {a : Act} {Q : Exit → Act → World → Prop} (hgd : o.guard = none) (s x : Operand) (t : TypeId)
    (ho : o.op = .call { callee := .builtin .append, args := #[s, x], argTypes := #[t, t] })
    (base : Nat) (e : TypeId) (i : TypeInfo) (z : Value) (bytes : Nat) (ht : P.underlying t = some (.slice e)) (hi : P.info? e = some i) (hz : i.zero = some z)
    (hsize : i.size = 1) (hby : i.bytes = bytes) (hzs : z.cells.size = 1)
    (v : Value) (n : Nat) (xs : List Value) (hs : a.eval s = v) (hown : w.ownsRow base e 1 v n xs)
    (xo : Option Addr) (m c : Nat) (news : List Value) (hx : a.eval x = .slice xo m c) (h0 : xo = none → m = 0 ∧ c = 0) (hl : news.length = m) (hnews : ∀ ad, xo = some ad → ∀ j u, news[j]? = some u → w.cell? (ad.add j) = some u) (h1 : ∀ u ∈ news, u.oneCell' = true)
    (h63 : n + m ≤ maxLen) (hbytes : (n + m) * bytes ≤ 140737488355328) (hbase : base ≤ w.heap.size)
    (h : ∀ v' w', w'.ownsRow base e 1 v' (n + m) (xs ++ news) → w.grownBy w' v.ownBlock → wpList P ops Q rest (a.put o.dst v') w') : wpList P ops Q (o :: rest) a w := by
  refine wpList_plain hgd fun K hK => ?_
  obtain ⟨v', w', hrun, r1, r2, r3⟩ := run_append_src (P := P) w base t o.type e i z bytes ht hi hz hsize hby hzs v n xs hown xo m c news h0 hl hnews h1 h63 hbytes hbase
  unfold Oper.wp
  simp [execOp, ho, resolve, invoke, builtin, hs, hx, hrun, Result.andThen]
  exact hK _ _ (h v' w' r1 r2)
/-- A list's cells, as append takes them. -/
theorem IntsAt.news {w : World} {ao : Option Addr} {l : List Int} (h : IntsAt w ao l) : ∀ ad, ao = some ad → ∀ j u, (intsC l)[j]? = some u → w.cell? (ad.add j) = some u := fun ad e j u hu => by
  have hj : j < l.length := by
    have := (List.getElem?_eq_some_iff.1 hu).1
    rw [intsC_length] at this; exact this
  obtain ⟨b, off, e2, hc⟩ := h.lies (by omega)
  rw [e2] at e; cases e
  rw [Addr.add_mid, hc j hj]
  unfold intsC at hu
  rw [List.getElem?_map, List.getElem?_eq_getElem hj] at hu
  rw [List.getD_eq_getElem?_getD, List.getElem?_eq_getElem hj]
  exact hu
theorem cell_row {w : World} {b : Nat} {cs : Array Value} {t : TypeId} {fr : Nat × Nat} (h : w.heap[b]? = some (.cells cs t fr)) (j : Nat) : w.cell? ⟨b, j, none⟩ = cs[j]? := by
  simp [World.cell?, h]
theorem ints_new (w : World) (l : List Int) (hl : l.length ≤ 1000) (hn : ∀ n ∈ l, -9223372036854775808 ≤ n ∧ n ≤ 9223372036854775807) : IntsAt (w.alloc (.cells (intsC l).toArray 3)) (some ⟨w.heap.size, 0, none⟩) l := by
  refine ⟨by omega, hn, fun h0 => ⟨w.heap.size, 0, rfl, fun j hj => ?_⟩⟩
  rw [cell_row (heap_alloc_new _ _)]
  rw [Nat.zero_add, List.getElem?_toArray]
  unfold intsC
  rw [List.getElem?_map, List.getElem?_eq_getElem hj, List.getD_eq_getElem?_getD, List.getElem?_eq_getElem hj]
  rfl
def ansL (R : Option (List Int)) : List Int := R.getD []
def ansE (R : Option (List Int)) : Int := match R with
  | none => 1
  | some _ => 0
/-- An answer: a list and an error's number. -/
def Ret2 (R : Option (List Int)) (w : World) (e : Ending) (w' : World) : Prop := ∃ la lc, e = .returned (.tuple #[.slice la (ansL R).length lc, .int .i64 (ansE R)]) ∧ IntsAt w' la (ansL R) ∧ Below w.heap.size w w'
theorem IntsAt.nil (w : World) : IntsAt w none [] := ⟨by simp, by simp, fun h => by simp at h⟩
theorem Out.nil (w : World) : Out w (.slice none 0 0) [] w := ⟨World.ownsRow_nil _ _ _ _, Below.refl _ _⟩
theorem Out.low {w X X' : World} {v : Value} {xs : List Int} (h : Out w v xs X) (hb : Below X.heap.size X X') : Out w v xs X' := ⟨own_low h.own hb, h.below.trans (hb.mono h.below.size)⟩
theorem Out.drew {w X : World} {v : Value} {xs : List Int} (h : Out w v xs X) : Out w v xs X.drew := h.low ⟨rfl, rfl, rfl, Nat.le_refl _, fun _ _ => rfl⟩
theorem Out.alloc {w X : World} {v : Value} {xs : List Int} (h : Out w v xs X) (o : Obj) : Out w v xs (X.alloc o) := h.low ((Below.refl _ _).alloc (Nat.le_refl _) _)
theorem Out.push {w X : World} {v : Value} {xs : List Int} (h : Out w v xs X) {g cap : Nat} {w1 : World} {p : Int} (ho : w1.ownsRow w.heap.size 3 1 (.slice (some ⟨g, 0, none⟩) (xs.length + 1) cap) (xs.length + 1) (intsC xs ++ [.int .i64 p])) (hg : X.grownBy w1 v.ownBlock) : Out w (.slice (some ⟨g, 0, none⟩) (xs.length + 1) cap) (xs ++ [p]) w1 := by
  refine ⟨by rw [List.length_append, intsC_append]; exact ho, h.below.trans ⟨hg.os, hg.tape, hg.output, hg.size, fun k hk => ?_⟩⟩
  exact hg.block k (by have := h.below.size; omega) (fun e => by have := (h.own.lt k e.symm).1; omega)
theorem Out.shape {w X : World} {v : Value} {xs : List Int} (h : Out w v xs X) : ∃ ao cap, v = .slice ao xs.length cap := by
  obtain ⟨ao, cap, h1, _⟩ := owns_shape h.own
  exact ⟨ao, cap, h1⟩
theorem Out.ints {w X : World} {ao : Option Addr} {cap : Nat} {xs : List Int} (h : Out w (.slice ao xs.length cap) xs X) (hl : xs.length ≤ 17592186044415) (hn : ∀ n ∈ xs, -9223372036854775808 ≤ n ∧ n ≤ 9223372036854775807) : IntsAt X ao xs := own_ints h.own hl hn

end Go.Proofs.Ytkhdkmdiblomhaa

namespace Go.Proofs.Ytkhdkmdiblomhaa
open Go.RowKit
set_option linter.unusedSimpArgs false
set_option linter.unusedVariables false

abbrev subC (q : Sb) (ca : Option Addr) (cc : Nat) (pa : Option Addr) (pc : Nat) (ea : Option Addr) (ec : Nat) : Array Value := #[.int .i64 q.k, .int .i64 q.o, .int .i64 q.w, .int .i64 q.p, .int .i64 q.h, .slice ca q.C.length cc, .int .i64 q.R.m, .int .i64 q.R.o, .slice pa q.R.P.length pc, .slice ea q.R.E.length ec]
abbrev subV (q : Sb) (ca : Option Addr) (cc : Nat) (pa : Option Addr) (pc : Nat) (ea : Option Addr) (ec : Nat) : Value := .agg (subC q ca cc pa pc ea ec)
abbrev I64 (x : Int) : Prop := -9223372036854775808 ≤ x ∧ x ≤ 9223372036854775807
/-- A recipe in memory: its lists; its numbers are an int's. -/
structure SbAt (w : World) (q : Sb) (ca pa ea : Option Addr) : Prop where
  C : IntsAt w ca q.C
  R : RcAt w q.R pa ea
  k : I64 q.k
  o : I64 q.o
  w : I64 q.w
  p : I64 q.p
  h : I64 q.h
theorem SbAt.keep {w w' : World} {q : Sb} {ca pa ea : Option Addr} (a : SbAt w q ca pa ea) (hb : ∀ k, k < w.heap.size → w'.heap[k]? = w.heap[k]?) : SbAt w' q ca pa ea := ⟨a.C.keep hb, a.R.keep hb, a.k, a.o, a.w, a.p, a.h⟩
theorem SbAt.below {w w' : World} {q : Sb} {ca pa ea : Option Addr} (a : SbAt w q ca pa ea) (hb : Below w.heap.size w w') : SbAt w' q ca pa ea := a.keep hb.block
abbrev S0 : Sb := ⟨0, 0, 0, 0, 0, [], R0⟩
abbrev okS (q : Sb) (v : Int) (l : List Int) : Prop := subOk q l.length v ∧ goesOk q v l
/-- A new address. -/
def Fr (n : Nat) (ao : Option Addr) : Prop := ∀ b, blockOf ao = some b → n ≤ b
/-- What the program's Encode and Decode do. -/
structure Does10 : Prop where
  enc_ok : ∀ (q : Sb) (v : Int) (l : List Int) (ca : Option Addr) (cc : Nat) (pa : Option Addr) (pc : Nat) (ea : Option Addr) (ec : Nat) (lo : Option Addr) (cap p : Nat) (ao : Option Addr) (B : List Nat) (w : World), l.length ≤ cap → (lo = none → cap = 0) → (ca = none → cc = 0) → q.C.length ≤ cc → Bits01 B → B.length ≤ 100000 → SbAt w q ca pa ea → IntsAt w lo l → WrB w p ao B → Apart p ao ca q.C → Apart p ao pa q.R.P → Apart p ao ea q.R.E → Apart p ao lo l → okS q v l →
    Calls Try.prog 9 #[.pointer (some ⟨p, 0, none⟩), subV q ca cc pa pc ea ec, .int .i64 v, .slice lo l.length cap] w fun e w' => e = .returned (.int .i64 0) ∧ ∃ ao', WrB w' p ao' (B ++ subB q v l) ∧ Stays (foot p ao) w w' ∧ Moved w.heap.size ao ao'
  enc_no : ∀ (q : Sb) (v : Int) (l : List Int) (ca : Option Addr) (cc : Nat) (pa : Option Addr) (pc : Nat) (ea : Option Addr) (ec : Nat) (lo : Option Addr) (cap p : Nat) (ao : Option Addr) (B : List Nat) (w : World), l.length ≤ cap → (lo = none → cap = 0) → (ca = none → cc = 0) → q.C.length ≤ cc → l.length ≤ 65535 → I64 v → Bits01 B → B.length ≤ 100000 → SbAt w q ca pa ea → IntsAt w lo l → WrB w p ao B → Apart p ao ca q.C → Apart p ao pa q.R.P → Apart p ao ea q.R.E → Apart p ao lo l → ¬ okS q v l →
    Calls Try.prog 9 #[.pointer (some ⟨p, 0, none⟩), subV q ca cc pa pc ea ec, .int .i64 v, .slice lo l.length cap] w fun e w' => e = .returned (.int .i64 60) ∧ Below w.heap.size w w'
  dec_ok : ∀ (x : Nat) (s : ByteArray) (a : Nat) (b v : Int) (l : List Int) (q : Sb) (a1 : Nat) (w : World), s.size ≤ 140737488351232 → a ≤ 8 * s.size → (1 ≤ b ∧ b ≤ 65535) → (1 ≤ v ∧ v ≤ 33) → Rd w x s a → decS s a b v = some (l, q, a1) →
    Calls Try.prog 13 #[.pointer (some ⟨x, 0, none⟩), .int .i64 b, .int .i64 v] w fun e w' => ∃ la lc ca cc pa pc ea ec, e = .returned (.tuple #[.slice la l.length lc, subV q ca cc pa pc ea ec, .int .i64 0]) ∧ IntsAt w' la l ∧ (l.length ≤ lc ∧ (la = none → lc = 0)) ∧ SbAt w' q ca pa ea ∧ (q.C.length ≤ cc ∧ (ca = none → cc = 0)) ∧ (Fr w.heap.size la ∧ Fr w.heap.size ca ∧ Fr w.heap.size pa ∧ Fr w.heap.size ea) ∧ Rd w' x s a1 ∧ Stays (only x) w w'
  dec_no : ∀ (x : Nat) (s : ByteArray) (a : Nat) (b v : Int) (w : World), s.size ≤ 140737488351232 → a ≤ 8 * s.size → (1 ≤ b ∧ b ≤ 65535) → (1 ≤ v ∧ v ≤ 33) → Rd w x s a → decS s a b v = none →
    Calls Try.prog 13 #[.pointer (some ⟨x, 0, none⟩), .int .i64 b, .int .i64 v] w fun e w' => e = .returned (.tuple #[.slice none 0 0, subV S0 none 0 none 0 none 0, .int .i64 2]) ∧ Stays (only x) w w'
  dec_arg : ∀ (x : Nat) (s : ByteArray) (a : Nat) (b v : Int) (w : World), I64 b → I64 v → Rd w x s a → ¬ ((1 ≤ b ∧ b ≤ 65535) ∧ (1 ≤ v ∧ v ≤ 33)) →
    Calls Try.prog 13 #[.pointer (some ⟨x, 0, none⟩), .int .i64 b, .int .i64 v] w fun e w' => e = .returned (.tuple #[.slice none 0 0, subV S0 none 0 none 0 none 0, .int .i64 1]) ∧ Below w.heap.size w w'
/-- A box with a recipe. -/
theorem sub_cells {w : World} {g : Nat} {q : Sb} {ca : Option Addr} {cc : Nat} {pa : Option Addr} {pc : Nat} {ea : Option Addr} {ec : Nat} (h : w.heap[g]? = some (.cells (subC q ca cc pa pc ea ec) 26 (0, 0))) :
    w.cell? ⟨g, 0, none⟩ = some (.int .i64 q.k) ∧ w.cell? ⟨g, 1, none⟩ = some (.int .i64 q.o) ∧ w.cell? ⟨g, 2, none⟩ = some (.int .i64 q.w) ∧ w.cell? ⟨g, 3, none⟩ = some (.int .i64 q.p) ∧ w.cell? ⟨g, 4, none⟩ = some (.int .i64 q.h) ∧ w.cell? ⟨g, 5, none⟩ = some (.slice ca q.C.length cc) ∧ w.cell? ⟨g, 6, none⟩ = some (.int .i64 q.R.m) ∧ w.cell? ⟨g, 7, none⟩ = some (.int .i64 q.R.o) ∧ w.cell? ⟨g, 8, none⟩ = some (.slice pa q.R.P.length pc) ∧ w.cell? ⟨g, 9, none⟩ = some (.slice ea q.R.E.length ec) := by
  refine ⟨?_, ?_, ?_, ?_, ?_, ?_, ?_, ?_, ?_, ?_⟩ <;> (rw [cell_of_row _ _ _ _ _ _ h]; rfl)

end Go.Proofs.Ytkhdkmdiblomhaa

namespace Go.Proofs.Ytkhdkmdiblomhaa
open Go.RowKit
set_option linter.unusedSimpArgs false
set_option linter.unusedVariables false
set_option maxRecDepth 20000 in
set_option maxHeartbeats 3200000 in
theorem ints_same (l : List Int) (a b : Option Addr) (c d : Nat) (w : World) (hl : IntsAt w a l) (hm : IntsAt w b l) :
    Calls Try.prog 14 #[.slice a l.length c, .slice b l.length d] w fun e w' => e = .returned (.bool true) ∧ ∃ n, w' = w.drewN n := by
  have h1 := hl.len
  have HL : Hid (IntsAt w a l) := hl
  have HM : Hid (IntsAt w b l) := hm
  clear hl hm
  go_enter Try.func14, Try.ntmps14
  go_wp2_with fail
  go_loopw [5] (fun t wr => ∃ k n : Nat, k ≤ l.length ∧ t = .int .i64 (k : Int) ∧ wr = w.drewN n) (fun t _ => l.length - (intOf t).toNat)
  case atStart => exact ⟨0, 0, Nat.zero_le _, rfl, rfl⟩
  case round =>
    obtain ⟨k, n, hk, rfl, hw⟩ := hrel
    have HW : Hid (wr = w.drewN n) := hw
    clear hw
    by_cases hlt : k < l.length
    · obtain ⟨b1, o1, rfl, q1⟩ := HL.out.at k hlt
      obtain ⟨b2, o2, rfl, q2⟩ := HM.out.at k hlt
      have r1 := q1 wr (by rw [HW.out]; exact below_drewN _ _)
      have r2 := q2 wr (by rw [HW.out]; exact below_drewN _ _)
      clear q1 q2
      generalize l.getD k 0 = x at *
      go_wp2_with fail
      go_quiet (fail)
      go_wp2_with fail
      go_roundw
      case rel => exact ⟨k + 1, n + nq, by omega, by go_num, by rw [HW.out, World.drewN_drewN]⟩
      case measure => simp [intOf]; omega
    · go_wp2_with fail
      go_ret
      exact ⟨rfl, n, HW.out⟩
end Go.Proofs.Ytkhdkmdiblomhaa

namespace Go.Proofs.Ytkhdkmdiblomhaa
open Go.RowKit
set_option linter.unusedSimpArgs false
set_option linter.unusedVariables false

set_option maxRecDepth 20000 in
set_option maxHeartbeats 3200000 in
theorem rsame_same (c : Rc) (pa : Option Addr) (pc : Nat) (ea : Option Addr) (ec : Nat) (pb : Option Addr) (pd : Nat) (eb : Option Addr) (ed : Nat) (w : World) (hr : RcAt w c pa ea) (hq : RcAt w c pb eb) :
    Calls Try.prog 29 #[riceV c pa pc ea ec, riceV c pb pd eb ed] w fun e w' => e = .returned (.bool true) ∧ Below w.heap.size w w' := by
  have HR : Hid (RcAt w c pa ea) := hr
  have HQ : Hid (RcAt w c pb eb) := hq
  have hlP := hr.P.len
  have hlE := hr.E.len
  have HA0 : Hid (RB w c pa pc ea ec ((w.alloc (.cells (riceC c pa pc ea ec) 24)).alloc (.cells (riceC c pb pd eb ed) 24)) ∧ ((w.alloc (.cells (riceC c pa pc ea ec) 24)).alloc (.cells (riceC c pb pd eb ed) 24)).heap[w.heap.size + 1]? = some (.cells (riceC c pb pd eb ed) 24 (0, 0))) := by
    refine ⟨(RB.new w c pa pc ea ec).next ((Below.refl _ _).alloc (Nat.le_refl _) _), ?_⟩
    have hh := heap_alloc_new (w.alloc (.cells (riceC c pa pc ea ec) 24)) (.cells (riceC c pb pd eb ed) 24)
    rw [show (w.alloc (.cells (riceC c pa pc ea ec) 24)).heap.size = w.heap.size + 1 from by simp] at hh
    exact hh
  clear hr hq
  go_enter Try.func29, Try.ntmps29
  go_wp2_with fail
  generalize hwa : World.alloc _ _ = wa at *
  clear hwa
  go_loopw [5] (fun t wr => ∃ k : Nat, k ≤ c.P.length ∧ t = .int .i64 (k : Int) ∧ RB w c pa pc ea ec wr ∧ wr.heap[w.heap.size + 1]? = some (.cells (riceC c pb pd eb ed) 24 (0, 0))) (fun t _ => c.P.length - (intOf t).toNat)
  case atStart => exact ⟨0, Nat.zero_le _, rfl, HA0.out⟩
  case round =>
    obtain ⟨k, hk, rfl, h1, h2⟩ := hrel
    have HA : Hid (RB w c pa pc ea ec wr ∧ wr.heap[w.heap.size + 1]? = some (.cells (riceC c pb pd eb ed) 24 (0, 0))) := ⟨h1, h2⟩
    have x2 := h1.c2
    have y2 : wr.cell? ⟨w.heap.size + 1, 2, none⟩ = some (.slice pb c.P.length pd) := by rw [cell_of_row _ _ _ _ _ _ h2]; rfl
    by_cases hlt : k < c.P.length
    · obtain ⟨b1, o1, e1, q1⟩ := HR.out.P.at k hlt
      obtain ⟨b2, o2, e2, q2⟩ := HQ.out.P.at k hlt
      have r1 := q1 wr h1.below
      have r2 := q2 wr h1.below
      rw [e1] at x2
      rw [e2] at y2
      clear q1 q2 e1 e2 h1 h2
      generalize c.P.getD k 0 = x at *
      go_wp2_with fail
      go_quiet (fail)
      go_wp2_with fail
      go_roundw
      case rel => exact ⟨k + 1, by omega, by go_num, HA.out.1.drewN _, HA.out.2⟩
      case measure => simp [intOf]; omega
    · clear h1 h2
      go_wp2_with fail

      clear HA0
      have HA0 := HA
      clear HA
      go_loopw [6] (fun t wr => ∃ k : Nat, k ≤ c.E.length ∧ t = .int .i64 (k : Int) ∧ RB w c pa pc ea ec wr ∧ wr.heap[w.heap.size + 1]? = some (.cells (riceC c pb pd eb ed) 24 (0, 0))) (fun t _ => c.E.length - (intOf t).toNat)
      case atStart => exact ⟨0, Nat.zero_le _, rfl, HA0.out⟩
      case round =>
        obtain ⟨k, hk, rfl, h1, h2⟩ := hrel
        have HA : Hid (RB w c pa pc ea ec wr ∧ wr.heap[w.heap.size + 1]? = some (.cells (riceC c pb pd eb ed) 24 (0, 0))) := ⟨h1, h2⟩
        have x3 := h1.c3
        have y3 : wr.cell? ⟨w.heap.size + 1, 3, none⟩ = some (.slice eb c.E.length ed) := by rw [cell_of_row _ _ _ _ _ _ h2]; rfl
        by_cases hlt : k < c.E.length
        · obtain ⟨b1, o1, e1, q1⟩ := HR.out.E.at k hlt
          obtain ⟨b2, o2, e2, q2⟩ := HQ.out.E.at k hlt
          have r1 := q1 wr h1.below
          have r2 := q2 wr h1.below
          rw [e1] at x3
          rw [e2] at y3
          clear q1 q2 e1 e2 h1 h2
          generalize c.E.getD k 0 = x at *
          go_wp2_with fail
          go_quiet (fail)
          go_wp2_with fail
          go_roundw
          case rel => exact ⟨k + 1, by omega, by go_num, HA.out.1.drewN _, HA.out.2⟩
          case measure => simp [intOf]; omega
        · clear h1 h2
          go_wp2_with fail

          go_ret
          exact ⟨rfl, HA.out.1.below⟩
set_option maxRecDepth 20000 in
set_option maxHeartbeats 3200000 in
theorem sub_same (q : Sb) (ca : Option Addr) (cc : Nat) (pa : Option Addr) (pc : Nat) (ea : Option Addr) (ec : Nat) (cb : Option Addr) (cd : Nat) (pb : Option Addr) (pd : Nat) (eb : Option Addr) (ed : Nat) (w : World) (hr : SbAt w q ca pa ea) (hq : SbAt w q cb pb eb) :
    Calls Try.prog 15 #[subV q ca cc pa pc ea ec, subV q cb cd pb pd eb ed] w fun e w' => e = .returned (.bool true) ∧ Below w.heap.size w w' := by
  have HA0 : Hid (((w.alloc (.cells (subC q ca cc pa pc ea ec) 26)).alloc (.cells (subC q cb cd pb pd eb ed) 26)).heap[w.heap.size]? = some (.cells (subC q ca cc pa pc ea ec) 26 (0, 0)) ∧ ((w.alloc (.cells (subC q ca cc pa pc ea ec) 26)).alloc (.cells (subC q cb cd pb pd eb ed) 26)).heap[w.heap.size + 1]? = some (.cells (subC q cb cd pb pd eb ed) 26 (0, 0)) ∧ Below w.heap.size w ((w.alloc (.cells (subC q ca cc pa pc ea ec) 26)).alloc (.cells (subC q cb cd pb pd eb ed) 26))) := by
    refine ⟨heap_two _ _ _, ?_, ((Below.refl _ _).alloc (Nat.le_refl _) _).alloc (by simp) _⟩
    have hh := heap_alloc_new (w.alloc (.cells (subC q ca cc pa pc ea ec) 26)) (.cells (subC q cb cd pb pd eb ed) 26)
    rw [show (w.alloc (.cells (subC q ca cc pa pc ea ec) 26)).heap.size = w.heap.size + 1 from by simp] at hh
    exact hh
  have KI : Hid (∀ wx, Below w.heap.size w wx → Calls Try.prog 14 #[.slice ca q.C.length cc, .slice cb q.C.length cd] wx fun e w' => e = .returned (.bool true) ∧ ∃ n, w' = wx.drewN n) := fun wx hb => ints_same q.C ca cb cc cd wx (hr.C.below hb) (hq.C.below hb)
  have KR : Hid (∀ wx, Below w.heap.size w wx → Calls Try.prog 29 #[riceV q.R pa pc ea ec, riceV q.R pb pd eb ed] wx fun e w' => e = .returned (.bool true) ∧ Below wx.heap.size wx w') := fun wx hb => rsame_same q.R pa pc ea ec pb pd eb ed wx (hr.R.below hb) (hq.R.below hb)
  clear hr hq
  go_enter Try.func15, Try.ntmps15
  go_upto_region 1 with fail
  generalize hwa : World.alloc _ _ = wa at *
  clear hwa
  obtain ⟨x0, x1, x2, x3, x4, x5, x6, x7, x8, x9⟩ := sub_cells HA0.out.1
  obtain ⟨y0, y1, y2, y3, y4, y5, y6, y7, y8, y9⟩ := sub_cells HA0.out.2.1
  go_wp2_with fail
  refine (KI.out wa HA0.out.2.2).mono ?_
  rintro e w2 ⟨rfl, n2, hw2⟩
  have hb2 : Below wa.heap.size wa w2 := by rw [hw2]; exact below_drewN _ _
  have HB2 : Hid (Below w.heap.size w w2) := HA0.out.2.2.trans (hb2.mono HA0.out.2.2.size)
  have h1 : w2.heap[w.heap.size]? = some (.cells (subC q ca cc pa pc ea ec) 26 (0, 0)) := by rw [hb2.block _ (lt_of_block HA0.out.1)]; exact HA0.out.1
  have h2 : w2.heap[w.heap.size + 1]? = some (.cells (subC q cb cd pb pd eb ed) 26 (0, 0)) := by rw [hb2.block _ (lt_of_block HA0.out.2.1)]; exact HA0.out.2.1
  clear x0 x1 x2 x3 x4 x5 x6 x7 x8 x9 y0 y1 y2 y3 y4 y5 y6 y7 y8 y9 hb2 hw2
  obtain ⟨x0, x1, x2, x3, x4, x5, x6, x7, x8, x9⟩ := sub_cells h1
  obtain ⟨y0, y1, y2, y3, y4, y5, y6, y7, y8, y9⟩ := sub_cells h2
  clear h1 h2
  go_wp2_with fail
  refine (KR.out w2 HB2.out).mono ?_
  rintro e w3 ⟨rfl, hb3⟩
  have HB3 : Hid (Below w.heap.size w w3) := HB2.out.trans (hb3.mono HB2.out.size)
  clear hb3 x0 x1 x2 x3 x4 x5 x6 x7 x8 x9 y0 y1 y2 y3 y4 y5 y6 y7 y8 y9
  go_wp2_with fail
  go_ret
  exact ⟨rfl, HB3.out⟩
theorem short10_yes (l : List Int) (ao : Option Addr) (cap : Nat) (w : World) (h : l.length ≤ 300) : Calls Try.prog 6 #[.slice ao l.length cap] w fun e w' => e = .returned (.bool true) ∧ w' = w := by
  have hb : decide ((l.length : Int) ≤ 300) = true := decide_eq_true (by omega)
  go_enter Try.func6, Try.ntmps6
  go_wp2_with fail
  go_ret
  exact ⟨rfl, rfl⟩
theorem short10_no (l : List Int) (ao : Option Addr) (cap : Nat) (w : World) (h1 : l.length ≤ 17592186044415) (h : ¬ l.length ≤ 300) : Calls Try.prog 6 #[.slice ao l.length cap] w fun e w' => e = .returned (.bool false) ∧ w' = w := by
  have hb : decide ((l.length : Int) ≤ 300) = false := decide_eq_false (by omega)
  go_enter Try.func6, Try.ntmps6
  go_wp2_with fail
  go_ret
  exact ⟨rfl, rfl⟩

end Go.Proofs.Ytkhdkmdiblomhaa

namespace Go.Proofs.Ytkhdkmdiblomhaa
open Go.RowKit
set_option linter.unusedSimpArgs false
set_option linter.unusedVariables false

theorem apart_old {w : World} {ao : Option Addr} {l : List Int} (h : IntsAt w ao l) {p : Nat} (hp : w.heap.size ≤ p) : Apart p none ao l := fun h0 b hb hf => by
  obtain ⟨bb, off, rfl, hc⟩ := h.lies h0
  have e : bb = b := by simpa [blockOf] using hb
  have h2 : bb < w.heap.size := lt_cell (hc 0 h0)
  rcases hf with hf | hf
  · omega
  · cases hf
theorem apart_new {ao : Option Addr} {l : List Int} {n p : Nat} (h : Fr n ao) (hp : p < n) : Apart p none ao l := fun h0 b hb hf => by
  have := h b hb
  rcases hf with hf | hf
  · omega
  · cases hf
theorem sigB_short (n k : Int) : (sigB n k).length ≤ 64 := by
  unfold sigB; split
  · rw [bitsOf_length]; omega
  · simp
theorem unrB_short (n : Int) (h : n ≤ 100) : (unrB n).length ≤ 101 := by
  unfold unrB; split
  · rw [List.length_append, List.length_replicate, List.length_singleton]; omega
  · simp
theorem wstB_short (w : Int) (h : w ≤ 33) : (wstB w).length ≤ 200 := by
  unfold wstB; split
  · rw [List.length_append]; have := putB_short 1 1 (by decide); have := unrB_short (w - 1) (by omega); omega
  · have := putB_short 0 1 (by decide); omega
theorem wstB_01 (w : Int) : Bits01 (wstB w) := by
  unfold wstB; split
  · exact (putB_01 _ _).append (unrB_01 _)
  · exact putB_01 _ _
theorem bodyB_01 (q : Sb) (v : Int) (m : List Int) : Bits01 (bodyB q v m) := by
  unfold bodyB
  split
  · exact sigB_01 _ _
  · split
    · exact numsB_01 _ _ _
    · split
      · exact (numsB_01 _ _ _).append (encB_01 _ _ _ _)
      · exact (numsB_01 _ _ _).append ((putB_01 _ _).append ((putB_01 _ _).append ((numsB_01 _ _ _).append (encB_01 _ _ _ _))))
theorem subB_01 (q : Sb) (v : Int) (l : List Int) : Bits01 (subB q v l) := (putB_01 _ _).append ((wstB_01 _).append (bodyB_01 _ _ _))
theorem encR_room {c : Rc} {b r : Int} {l : List Int} (h : encR c b r l = true) : (encB c b.toNat r.toNat l).length ≤ 1300000000000 := by
  obtain ⟨b', o', r', rfl, rfl, hk, hf⟩ := encR_yes h
  have hl := ((fitB_iff c b' o' r' l).1 hf).1
  have := hk.cut.b2
  exact encB_room c b' o' r' hk l hl (by omega)
theorem subB_room (q : Sb) (v : Int) (l : List Int) (h : okS q v l) : (subB q v l).length ≤ 1400000000000 := by
  obtain ⟨⟨hb, hv, hw, hkd⟩, hf, hd, hs, hr⟩ := h
  have hml : (shrL l q.w.toNat).length = l.length := shr_len l q.w.toNat
  have hll : l.length ≤ 65535 := by omega
  have e1 := putB_short (typN q) 7 (by decide)
  have e2 := wstB_short q.w (by omega)
  have hres : (q.k = 2 ∨ q.k = 3) → (encB q.R (shrL l q.w.toNat).length q.o.toNat (resN q (shrL l q.w.toNat))).length ≤ 1300000000000 := fun hk => by
    have := encR_room (hr hk)
    rw [Int.toNat_natCast] at this
    rw [hml]; exact this
  have hnm : ∀ X : List Int, X.length ≤ 65535 → (numsB 0 (v - q.w) X).length ≤ 64 * 65535 := fun X hX => by
    have := numsB_fit_len (v - q.w) X (by omega) (by omega); omega
  have htk : ((shrL l q.w.toNat).take q.o.toNat).length ≤ 65535 := by rw [List.length_take]; omega
  have hbody : (bodyB q v (shrL l q.w.toNat)).length ≤ 1390000000000 := by
    unfold bodyB
    split
    · have := sigB_short ((shrL l q.w.toNat).getD 0 0) (v - q.w); omega
    · split
      · have := hnm (shrL l q.w.toNat) (by omega); omega
      · split
        · rename_i hk
          rw [List.length_append]
          have := hnm _ htk; have := hres (Or.inl hk); omega
        · rename_i k0 k1 k2
          have hk3 : q.k = 3 := by have := kd_kinds hkd; unfold kinds at this; omega
          have hL : q.p ≤ 15 ∧ 1 ≤ q.p ∧ (q.C.length : Int) = q.o ∧ q.o ≤ 32 := by
            rcases hkd with hA | hF | hL
            · have := hA.1; omega
            · have := hF.1; omega
            · obtain ⟨_, _, h3, _, h5, h6, _, _, h9, _⟩ := hL; exact ⟨h6, h5, h9, h3⟩
          simp only [List.length_append]
          have a1 := hnm _ htk
          have a2 := hres (Or.inr hk3)
          have a3 := putB_short (q.p - 1) 4 (by decide)
          have a4 := putB_short q.h 5 (by decide)
          have a5 := numsB_fit_len q.p q.C (by omega) (by omega)
          omega
  unfold subB
  simp only [List.length_append]
  omega
/-- What was written into a writer is read as it was. -/
theorem back10 (q : Sb) (v : Int) (l : List Int) (h : okS q v l) : decS (textOf (pack (subB q v l))) 0 l.length v = some (l, q, (subB q v l).length) := by
  obtain ⟨R, a1, b1⟩ := ahead_pack (subB q v l) [] (subB q v l) [] (subB_01 q v l) (by simp)
  simp only [List.length_nil, Nat.zero_add, Nat.add_zero] at a1 b1
  have := sub_back (textOf (pack (subB q v l))) 0 q l.length v l h.1 rfl h.2 R a1 (by omega)
  rw [Nat.zero_add] at this
  exact this

end Go.Proofs.Ytkhdkmdiblomhaa

namespace Go.Proofs.Ytkhdkmdiblomhaa
open Go.RowKit
set_option linter.unusedSimpArgs false
set_option linter.unusedVariables false

end Go.Proofs.Ytkhdkmdiblomhaa

namespace Go.Proofs.Ytkhdkmdiblomhaa
open Go.RowKit
set_option linter.unusedSimpArgs false
set_option linter.unusedVariables false

end Go.Proofs.Ytkhdkmdiblomhaa

namespace Go.Proofs.Ytkhdkmdiblomhaa
open Go.RowKit
set_option linter.unusedSimpArgs false
set_option linter.unusedVariables false

def fixR (o : Int) (l : List Int) : Option (List Int) := if 0 ≤ o ∧ o ≤ 4 ∧ o ≤ (l.length : Int) then some (leftN (wF o.toNat) 0 l (l.length - o.toNat)) else none
def unfR (o : Int) (warm l : List Int) : Option (List Int) := if 0 ≤ o ∧ o ≤ 4 ∧ (warm.length : Int) = o then some (wholeN (wF o.toNat) 0 warm l l.length) else none
def mayB (C : List Int) (sh : Int) : Bool := decide (1 ≤ C.length) && decide (C.length ≤ 32) && decide (0 ≤ sh) && decide (sh ≤ 31)
def lpcR (C : List Int) (sh : Int) (l : List Int) : Option (List Int) := if mayB C sh = true ∧ C.length ≤ l.length then some (leftN C sh.toNat l (l.length - C.length)) else none
def unlR (C : List Int) (sh : Int) (warm l : List Int) : Option (List Int) := if mayB C sh = true ∧ warm.length = C.length then some (wholeN C sh.toNat warm l l.length) else none
theorem ret_none {R : Option (List Int)} (h : R = none) {w w' : World} {e : Ending} (he : e = .returned (.tuple #[.slice none 0 0, .int .i64 1])) (hb : Below w.heap.size w w') : Ret2 R w e w' := by
  subst h; exact ⟨none, 0, he, IntsAt.nil w', hb⟩
theorem ret_some {R : Option (List Int)} {L : List Int} (h : R = some L) {w w' : World} {e : Ending} {la : Option Addr} {lc : Nat} (he : e = .returned (.tuple #[.slice la L.length lc, .int .i64 0])) (hi : IntsAt w' la L) (hb : Below w.heap.size w w') : Ret2 R w e w' := by
  subst h; exact ⟨la, lc, he, hi, hb⟩
theorem mayB_iff (C : List Int) (sh : Int) : mayB C sh = true ↔ 1 ≤ C.length ∧ C.length ≤ 32 ∧ 0 ≤ sh ∧ sh ≤ 31 := by unfold mayB; simp [and_assoc]
end Go.Proofs.Ytkhdkmdiblomhaa
