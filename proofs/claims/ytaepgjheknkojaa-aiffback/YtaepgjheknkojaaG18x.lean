/- Own text: what Pack's closure does, sample by sample. the program's Unpack: its answers, its boxes. the walk of the document's Pack, its beginning. -/
import Derived.Test.YtaepgjheknkojaaG17x
import Derived.Test.YtaepgjheknkojaaG6x
import Derived.Test.YtaepgjheknkojaaG5x
import Derived.Test.YtaepgjheknkojaaG11x
import Derived.Test.YtaepgjheknkojaaRefbytes
import Derived.Lib.AppendStr
import Derived.Deep.MidRow
namespace Go.Proofs.Ytaepgjheknkojaa
open Go.RowKit
set_option linter.unusedSimpArgs false
set_option linter.unusedVariables false

/-- Planes that are all as long: where they lie. -/
theorem planes_of (xs : List (List Int)) (n b off : Nat) (w : World) (hr : RowsAt w (some ⟨b, off, none⟩) xs) (h2 : ∀ k, k < xs.length → (xs.getD k []).length = n) :
    ∃ (ra : Nat → Option Addr) (rc : Nat → Nat), ∀ k, k < xs.length → (∀ wx, Below w.heap.size w wx → wx.cell? ⟨b, off + k, none⟩ = some (.slice (ra k) n (rc k))) ∧ IntsAt w (ra k) (xs.getD k []) := by
  have hrow : ∀ k, k < xs.length → ∃ a c, (∀ wx, Below w.heap.size w wx → wx.cell? ⟨b, off + k, none⟩ = some (.slice a n c)) ∧ IntsAt w a (xs.getD k []) := fun k hk => by
    obtain ⟨b1, off1, a, c, e, _, hcell, hints⟩ := hr.at k hk
    have e' : b = b1 ∧ off = off1 := by
      injection e with e
      injection e with e1 e2
      exact ⟨e1, e2⟩
    obtain ⟨rfl, rfl⟩ := e'
    rw [h2 k hk] at hcell
    exact ⟨a, c, hcell, hints⟩
  let ra : Nat → Option Addr := fun k => if h : k < xs.length then Classical.choose (hrow k h) else none
  have hra : ∀ k (h : k < xs.length), ∃ c, (∀ wx, Below w.heap.size w wx → wx.cell? ⟨b, off + k, none⟩ = some (.slice (ra k) n c)) ∧ IntsAt w (ra k) (xs.getD k []) := fun k h => by
    have e : ra k = Classical.choose (hrow k h) := dif_pos h
    rw [e]
    exact Classical.choose_spec (hrow k h)
  let rc : Nat → Nat := fun k => if h : k < xs.length then Classical.choose (hra k h) else 0
  refine ⟨ra, rc, fun k h => ?_⟩
  have e : rc k = Classical.choose (hra k h) := dif_pos h
  rw [e]
  exact Classical.choose_spec (hra k h)

def packT (p : Pcm) (big uns : Bool) (c : Nat) : Nat → List Nat
  | 0 => []
  | t + 1 => packT p big uns c t ++ codeL big p.wd uns ((p.pl.getD (t % c) []).getD (t / c) 0)
theorem packT_frame (p : Pcm) (big uns : Bool) (i : Nat) (h0 : packT p big uns p.ch.toNat (i * p.ch.toNat) = packL p big uns i) : ∀ k, k ≤ p.ch.toNat → packT p big uns p.ch.toNat (i * p.ch.toNat + k) = packL p big uns i ++ frameL p big uns i k
  | 0, _ => by rw [Nat.add_zero, h0]; show _ = _ ++ []; rw [List.append_nil]
  | k + 1, hk => by
    rw [← Nat.add_assoc, packT, packT_frame p big uns i h0 k (by omega), frameL_succ, List.append_assoc]
    have e1 : (i * p.ch.toNat + k) % p.ch.toNat = k := by rw [Nat.mul_comm, Nat.mul_add_mod, Nat.mod_eq_of_lt (by omega)]
    have e2 : (i * p.ch.toNat + k) / p.ch.toNat = i := by rw [Nat.mul_comm, Nat.mul_add_div (by omega), Nat.div_eq_of_lt (by omega), Nat.add_zero]
    rw [e1, e2]
theorem packT_full (p : Pcm) (big uns : Bool) : ∀ i, packT p big uns p.ch.toNat (i * p.ch.toNat) = packL p big uns i
  | 0 => by rw [Nat.zero_mul]; rfl
  | i + 1 => by rw [Nat.succ_mul, packT_frame p big uns i (packT_full p big uns i) _ (Nat.le_refl _), packL_succ]
theorem packT_length (p : Pcm) (big uns : Bool) (c : Nat) : ∀ t, (packT p big uns c t).length = t * nby p.wd
  | 0 => by rw [Nat.zero_mul]; rfl
  | t + 1 => by rw [packT, List.length_append, packT_length p big uns c t, codeL_length, Nat.succ_mul]

/-- Pack's answer. -/
def pakN (p : Pcm) (big uns : Bool) : ByteArray := if checkN p = 0 then textOf (packL p big uns (lenP p)) else ⟨#[]⟩

theorem ok_parts (p : Pcm) (hc : checkN p = 0) : (mayB p.rate p.ch p.wd && evenB p) = true ∧ lenP p ≤ 1048576 ∧ (∀ k, k < p.pl.length → (p.pl.getD k []).length = lenP p) ∧ (p.pl.length = p.ch.toNat) ∧ (∀ i k, i < lenP p → k < p.pl.length → sampB ((p.pl.getD k []).getD i 0) p.wd = true) := by
  have hh : (mayB p.rate p.ch p.wd && evenB p) = true := by
    cases h : (mayB p.rate p.ch p.wd && evenB p) with
    | true => rfl
    | false => rw [check_uneven p h] at hc; exact absurd hc (by decide)
  have hsm : ∀ i k, i < lenP p → k < p.pl.length → sampB ((p.pl.getD k []).getD i 0) p.wd = true := fun i k hi hk => by
    cases h : sampB ((p.pl.getD k []).getD i 0) p.wd with
    | true => rfl
    | false => rw [check_bad p hh i k hi hk h] at hc; exact absurd hc (by decide)
  have hl : lenP p ≤ 1048576 := by
    rw [check_samples p hh hsm] at hc
    by_cases h : 1048576 < lenP p
    · rw [if_pos h] at hc; exact absurd hc (by decide)
    · omega
  have hh2 := hh
  rw [Bool.and_eq_true] at hh2
  obtain ⟨h1, h2⟩ := row_len p hh2.2
  exact ⟨hh, hl, h2, by omega, hsm⟩

set_option maxHeartbeats 1600000 in
theorem packTurn (p : Pcm) (b off : Nat) (big uns : Bool) (w : World) (hr : RowsAt w (some ⟨b, off, none⟩) p.pl) (hc : checkN p = 0) (C S : Nat) :
    ∃ ra rc, Turn b off (lenP p) p.pl.length ra rc 39 #[.pointer (some ⟨S, 0, none⟩), .pointer (some ⟨C, 0, none⟩)] (fun t wx => t ≤ lenP p * p.pl.length ∧ Pw w C S p.wd big uns (packT p big uns p.pl.length t) wx) (fun wx => False) := by
  obtain ⟨hh, hl, h2, hch, hsm⟩ := ok_parts p hc
  have hm := check_head_ok p hc
  have hnb := nby_range p.wd (by omega) (by omega)
  obtain ⟨ra, rc, hrc⟩ := planes_of p.pl (lenP p) b off w hr h2
  refine ⟨ra, rc, fun t wx hI k hk => (hrc k hk).1 wx hI.2.below, fun h0 k hk => ?_, fun i k wx hi hk hI b' o' he => ?_⟩
  · obtain ⟨b', o', e, _⟩ := (hrc k hk).2.lies (by rw [h2 k hk]; exact h0)
    exact ⟨b', o', e⟩
  · obtain ⟨b2, o2, e, hcell, _, _⟩ := (hrc k hk).2.at i (by rw [h2 k hk]; exact hi)
    rw [he] at e
    have e' : b' = b2 ∧ o' = o2 := by
      injection e with e
      injection e with e1 e2
      exact ⟨e1, e2⟩
    obtain ⟨rfl, rfl⟩ := e'
    have hcw := hcell w (Below.refl _ _)
    have hlt : i * p.pl.length + k < lenP p * p.pl.length := by
      have : i * p.pl.length + k < (i + 1) * p.pl.length := by rw [Nat.succ_mul]; omega
      exact Nat.lt_of_lt_of_le this (Nat.mul_le_mul_right _ hi)
    have hbig : lenP p * p.pl.length ≤ 1048576 * 8 := Nat.mul_le_mul hl (by omega)
    have e1 : (i * p.pl.length + k) % p.pl.length = k := by rw [Nat.mul_comm, Nat.mul_add_mod, Nat.mod_eq_of_lt hk]
    have e2 : (i * p.pl.length + k) / p.pl.length = i := by rw [Nat.mul_comm, Nat.mul_add_div (by omega), Nat.div_eq_of_lt hk, Nat.add_zero]
    refine (packC_spec w wx C S p.wd big uns _ _ b' (o' + i) (by omega) (by omega) (hsm i k hi hk) ?_ hI.2 (lt_cell hcw) hcw).mono ?_
    · rw [packT_length]
      exact Nat.le_trans (Nat.mul_le_mul (Nat.le_trans (Nat.le_of_lt hlt) hbig) hnb.2.1) (by decide)
    · rintro e w' ⟨rfl, h⟩
      refine Or.inl ⟨rfl, hlt, ?_⟩
      show Pw w C S p.wd big uns (packT p big uns p.pl.length (i * p.pl.length + k) ++ codeL big p.wd uns ((p.pl.getD ((i * p.pl.length + k) % p.pl.length) []).getD ((i * p.pl.length + k) / p.pl.length) 0)) w'
      rw [e1, e2]
      exact h

/-- What Pack keeps ahead of its closure: the samples, the cell's ways, a builder that was not written. -/
structure Pg (w0 : World) (C S : Nat) (wd : Int) (big uns : Bool) (w : World) : Prop where
  cell : w.heap[C]? = some (.cells (cellC wd big uns) 78 (0, 0))
  bld : w.heap[S]? = some (.cells #[.pointer none, .slice none 0 0] 83 (0, 0))
  lo : w0.heap.size ≤ C
  lt : C < S
  below : Below w0.heap.size w0 w
section
variable {w0 w w' : World} {C S : Nat} {wd : Int} {big uns : Bool}
theorem Pg.next (h : Pg w0 C S wd big uns w) (hB : Below w.heap.size w w') : Pg w0 C S wd big uns w' :=
  ⟨by rw [hB.block _ (lt_of_block h.cell)]; exact h.cell, by rw [hB.block _ (lt_of_block h.bld)]; exact h.bld, h.lo, h.lt, h.below.trans (hB.mono h.below.size)⟩
theorem Pg.c1 (h : Pg w0 C S wd big uns w) : w.cell? ⟨C, 1, none⟩ = some (.int .i64 (nby wd : Int)) := by rw [cell_of_row _ _ _ _ _ _ h.cell]; rfl
theorem Pg.grow (h : Pg w0 C S wd big uns w) (n : Nat) (hn : n ≤ 281474976710656) :
    Calls Try.prog 36 #[.pointer (some ⟨S, 0, none⟩), .int .i64 (n : Int)] w fun e w' => e = .returned (.tuple #[]) ∧ Pw w0 C S wd big uns [] w' := by
  have hlt := lt_of_block h.bld
  refine (grow_spec S S n w (Nat.le_refl _) h.bld (Nat.le_of_lt hlt) hn).mono ?_
  rintro e w' ⟨rfl, h1, h2⟩
  exact ⟨rfl, by rw [h2.block _ h.lt]; exact h.cell, h1, h.lo, h.lt, h.below.trans (h2.mono (by have := h.lo; have := h.lt; omega))⟩
theorem Pw.string {l : List Nat} (h : Pw w0 C S wd big uns l w) : Calls Try.prog 42 #[.pointer (some ⟨S, 0, none⟩)] w fun e w' => e = .returned (.string (textOf l)) ∧ Below w0.heap.size w0 w' := by
  have hlt := h.bld.lt
  refine (string_spec S S (textOf l).data.toList w (Or.inr h.bld) (Nat.le_of_lt hlt)).mono ?_
  rintro e w' ⟨rfl, h2⟩
  exact ⟨rfl, h.below.trans (h2.mono (by have := h.lo; have := h.lt; omega))⟩
end

end Go.Proofs.Ytaepgjheknkojaa

namespace Go.Proofs.Ytaepgjheknkojaa
open Go.RowKit
set_option linter.unusedSimpArgs false
set_option linter.unusedVariables false

theorem res_two {fn : Func} {p t : Tmp} {ty : TypeId} (h : fn.results = #[.cell p ty, .tmp t]) (tmps : Array Value) (P : Program) (w : World) :
    (results fn tmps).run P w = ((asAddr (tmps.getD p undef)).run P w).andThen fun a w₁ => ((loadVar ty a).run P w₁).andThen fun x w₂ => .ok (.tuple #[x, tmps.getD t undef]) w₂ := by
  simp only [results, h]
  simp [Sem.run_bind, Result.andThen]
theorem blk_set (w : World) (p i : Nat) (cs : Array Value) (t : TypeId) (u : Value) (h : w.heap[p]? = some (.cells cs t (0, 0))) :
    (w.setCell ⟨p, i, none⟩ u).heap[p]? = some (.cells (cs.setIfInBounds i u) t (0, 0)) := by
  simp only [World.setCell, Array.getElem?_modify, h]
  simp
theorem infPcm : (Try.prog.info? 24).map (·.size) = some 4 := by kernel_rfl
abbrev zeroC : Array Value := #[.int .i64 0, .int .i64 0, .int .i64 0, .slice none 0 0]

/-- The i-th number of a text. -/
def numM (s : ByteArray) (wd : Int) (big uns : Bool) (i : Nat) : Int := decM wd uns (rawN (s.extract (i * nby wd) (i * nby wd + nby wd)) big)
/-- The list of lists that a function of two places is. -/
def matL (c n : Nat) (f : Nat → Nat → Int) : List (List Int) := (List.range c).map fun k => (List.range n).map (f k)
theorem matL_length (c n : Nat) (f : Nat → Nat → Int) : (matL c n f).length = c := by simp [matL]
theorem matL_at (c n : Nat) (f : Nat → Nat → Int) (k : Nat) (hk : k < c) : (matL c n f).getD k [] = (List.range n).map (f k) := by
  simp [matL, List.getD, hk]
theorem mat_rows {B c n : Nat} {f : Nat → Nat → Int} {w : World} (h : Mat B c n f w) (hc : c ≤ 8) (hn : n ≤ 1048576) (hf : ∀ k i, k < c → i < n → -9223372036854775808 ≤ f k i ∧ f k i ≤ 9223372036854775807) :
    RowsAt w (some ⟨B, 0, none⟩) (matL c n f) ∧ Fresh B w (some ⟨B, 0, none⟩) (matL c n f) := by
  have hlen := matL_length c n f
  have hcell : ∀ k, k < c → w.cell? ⟨B, k, none⟩ = some (.slice (some ⟨B + 1 + k, 0, none⟩) n n) := fun k hk => h.outer.cell hk
  refine ⟨⟨by omega, fun h0 => ⟨B, 0, rfl, fun i hi => ?_⟩⟩, ⟨fun b off e h0 => ?_, fun b off e i hi a m cc hcc ba oa ha => ?_⟩⟩
  · rw [hlen] at hi
    rw [matL_at c n f i hi, List.length_map, List.length_range]
    refine ⟨some ⟨B + 1 + i, 0, none⟩, n, ?_, Nat.le_refl _, fun e => (by cases e), ⟨?_, ?_, fun h0 => ⟨B + 1 + i, 0, rfl, fun j hj => ?_⟩⟩⟩
    · rw [Nat.zero_add]
      exact hcell i hi
    · rw [List.length_map, List.length_range]
      omega
    · intro x hx
      obtain ⟨j, hj, rfl⟩ := List.mem_map.1 hx
      exact hf i j hi (List.mem_range.1 hj)
    · rw [List.length_map, List.length_range] at hj
      rw [Nat.zero_add, (h.inner i hi).cell hj]
      simp [List.getD, hj]
  · injection e with e
    injection e with e1 e2
    omega
  · injection e with e
    injection e with e1 e2
    rw [hlen] at hi
    subst e1
    subst e2
    rw [Nat.zero_add, hcell i hi] at hcc
    injection hcc with hcc
    injection hcc with x1 x2 x3
    rw [ha] at x1
    injection x1 with x1
    injection x1 with y1 y2
    subst y1
    exact ⟨by omega, fun j => (h.inner i hi).frozen j⟩

theorem rows0 (w : World) (ao : Option Addr) : RowsAt w ao (⟨0, 0, 0, []⟩ : Pcm).pl := ⟨by simp, fun h => absurd h (by simp)⟩
theorem fresh0 (B : Nat) (w : World) (ao : Option Addr) : Fresh B w ao (⟨0, 0, 0, []⟩ : Pcm).pl := ⟨fun _ _ _ h => absurd h (by simp), fun _ _ _ i hi => absurd hi (by simp)⟩

/-- Unpack's error, and its samples. -/
def uE (s : ByteArray) (rate ch wd : Int) (big uns : Bool) : Int :=
  if mayB rate ch wd then (if s.size % (nby wd * ch.toNat) = 0 then (if 1048576 < s.size / (nby wd * ch.toNat) then 5 else
    (if ∀ i, i < s.size / nby wd → sampB (numM s wd big uns i) wd = true then 0 else 2)) else 2) else 50
def uL (s : ByteArray) (wd : Int) (big uns : Bool) (c n : Nat) : List (List Int) := matL c n fun k i => numM s wd big uns (i * c + k)
def uP (s : ByteArray) (rate ch wd : Int) (big uns : Bool) : Pcm := if uE s rate ch wd big uns = 0 then ⟨rate, ch, wd, uL s wd big uns ch.toNat (s.size / (nby wd * ch.toNat))⟩ else ⟨0, 0, 0, []⟩
def GivesU (w : World) (q : Pcm) (n : Int) (e : Ending) (w' : World) : Prop := ∃ ao' cap', e = .returned (.tuple #[pcmV q ao' cap', .int .i64 n]) ∧ RowsAt w' ao' q.pl ∧ Fresh w.heap.size w' ao' q.pl ∧ Below w.heap.size w w'

structure Ub (w0 : World) (s : ByteArray) (wd : Int) (big uns : Bool) (w : World) : Prop where
  sb : w.heap[w0.heap.size]? = some (.cells #[.string s] 9 (0, 0))
  wb : w.heap[w0.heap.size + 1]? = some (.cells #[.int .i64 wd] 3 (0, 0))
  lb : w.heap[w0.heap.size + 2]? = some (.cells #[.bool big, .bool uns] 52 (0, 0))
  res : w.heap[w0.heap.size + 3]? = some (.cells zeroC 24 (0, 0))
  below : Below w0.heap.size w0 w
theorem Ub.new (w : World) (s : ByteArray) (wd : Int) (big uns : Bool) : Ub w s wd big uns ((((w.alloc (.cells #[.string s] 9)).alloc (.cells #[.int .i64 wd] 3)).alloc (.cells #[.bool big, .bool uns] 52)).alloc (.cells zeroC 24)) := by
  have h : ∀ (w : World) (o : Obj), Below w.heap.size w (w.alloc o) := fun w o => (Below.refl _ _).alloc (Nat.le_refl _) _
  have s1 : (w.alloc (.cells #[.string s] 9)).heap.size = w.heap.size + 1 := by simp
  have s2 : ((w.alloc (.cells #[.string s] 9)).alloc (.cells #[.int .i64 wd] 3)).heap.size = w.heap.size + 2 := by simp
  have s3 : (((w.alloc (.cells #[.string s] 9)).alloc (.cells #[.int .i64 wd] 3)).alloc (.cells #[.bool big, .bool uns] 52)).heap.size = w.heap.size + 3 := by simp
  refine ⟨?_, ?_, ?_, ?_, (((h w _).alloc (by simp) _).alloc (by simp <;> omega) _).alloc (by simp <;> omega) _⟩
  · rw [(h _ _).block _ (by simp <;> omega), (h _ _).block _ (by simp <;> omega), (h _ _).block _ (by simp)]
    exact heap_alloc_new _ _
  · rw [(h _ _).block _ (by simp <;> omega), (h _ _).block _ (by simp), ← s1]
    exact heap_alloc_new _ _
  · rw [(h _ _).block _ (by simp), ← s2]
    exact heap_alloc_new _ _
  · rw [← s3]
    exact heap_alloc_new _ _
theorem Ub.next {w0 w w' : World} {s : ByteArray} {wd : Int} {big uns : Bool} (h : Ub w0 s wd big uns w) (hB : Below w.heap.size w w') : Ub w0 s wd big uns w' :=
  ⟨by rw [hB.block _ (lt_of_block h.sb)]; exact h.sb, by rw [hB.block _ (lt_of_block h.wb)]; exact h.wb, by rw [hB.block _ (lt_of_block h.lb)]; exact h.lb, by rw [hB.block _ (lt_of_block h.res)]; exact h.res, h.below.trans (hB.mono h.below.size)⟩

set_option maxRecDepth 20000 in
set_option maxHeartbeats 3200000 in
theorem unpack_head (s : ByteArray) (rate ch wd : Int) (big uns : Bool) (w : World) (hh : mayB rate ch wd = false) :
    Calls Try.prog 50 #[.string s, .int .i64 rate, .int .i64 ch, .int .i64 wd, .agg #[.bool big, .bool uns]] w fun e w' => GivesU w (uP s rate ch wd big uns) (uE s rate ch wd big uns) e w' := by
  have HN : Hid (uE s rate ch wd big uns = 50) := by
    show _ = _
    unfold uE
    rw [hh]
    rfl
  have HP : Hid (uP s rate ch wd big uns = ⟨0, 0, 0, []⟩) := by
    show _ = _
    unfold uP
    rw [HN.out]
    rfl
  have HU := Ub.new w s wd big uns
  have d1 : ((((w.alloc (.cells #[.string s] 9)).alloc (.cells #[.int .i64 wd] 3)).alloc (.cells #[.bool big, .bool uns] 52)).alloc (.cells zeroC 24)).cell? ⟨w.heap.size + 1, 0, none⟩ = some (.int .i64 wd) := by rw [cell_of_row _ _ _ _ _ _ HU.wb]; rfl
  have HUH : Hid (Ub w s wd big uns ((((w.alloc (.cells #[.string s] 9)).alloc (.cells #[.int .i64 wd] 3)).alloc (.cells #[.bool big, .bool uns] 52)).alloc (.cells zeroC 24))) := HU
  have km := mayBe_spec rate ch wd
  rw [hh] at km
  clear hh HU
  go_enter Try.func50, Try.ntmps50
  go_wp2_with fail
  refine (km _).mono ?_
  rintro e w2 ⟨rfl, rfl⟩
  go_wp2_with fail
  generalize hwf : World.alloc _ _ = wf
  have hu : Ub w s wd big uns wf := by
    rw [← hwf]
    exact HUH.out
  refine bodyPost_ret (v := .tuple #[.agg zeroC, .int .i64 50]) ?_ rfl ⟨none, 0, by rw [HP.out, HN.out]; rfl, by rw [HP.out]; exact rows0 _ _, by rw [HP.out]; exact fresh0 _ _ _, hu.below⟩
  rw [res_two rfl]
  have hld := run_loadVar_row (P := Try.prog) wf (w.heap.size + 1 + 1 + 1) 24 24 zeroC (0, 0) _ hu.res Try.underlying24 rfl infPcm
  simp [asAddr, Result.andThen, hld]

end Go.Proofs.Ytaepgjheknkojaa

namespace Go.Proofs.Ytaepgjheknkojaa
open Go.RowKit
set_option linter.unusedSimpArgs false
set_option linter.unusedVariables false

/-- On the way through Pack: the boxes, the bytes so far. -/
structure Pk (w0 : World) (p : Pcm) (ao : Option Addr) (cap : Nat) (big uns : Bool) (v : Value) (l : List Nat) (w : World) : Prop where
  box : w.heap[w0.heap.size]? = some (.cells (pcmC p ao cap) 24 (0, 0))
  lay : w.heap[w0.heap.size + 1]? = some (.cells #[.bool big, .bool uns] 52 (0, 0))
  own : w.ownsRow (w0.heap.size + 2) 5 1 v l.length (l.map fun (b : Nat) => Value.int .u8 (b : Int))
  size : w0.heap.size + 2 ≤ w.heap.size
  below : Below w0.heap.size w0 w
theorem grown_of {w w' : World} (h : Below w.heap.size w w') (row : Option Nat) : w.grownBy w' row := ⟨h.os, h.tape, h.output, h.size, fun k hk _ => h.block k hk⟩
theorem owns_next {w w' : World} {base : Nat} {e : TypeId} {size : Nat} {v : Value} {n : Nat} {xs : List Value} (h : w.ownsRow base e size v n xs) (hB : Below w.heap.size w w') : w'.ownsRow base e size v n xs :=
  h.kept (row := none) (grown_of hB none) (by cases hv : v.ownBlock <;> simp)
section
variable {w0 w w' : World} {p : Pcm} {ao : Option Addr} {cap : Nat} {big uns : Bool} {v v' : Value} {l l' : List Nat}
theorem Pk.next (h : Pk w0 p ao cap big uns v l w) (hB : Below w.heap.size w w') : Pk w0 p ao cap big uns v l w' :=
  ⟨by rw [hB.block _ (lt_of_block h.box)]; exact h.box, by rw [hB.block _ (lt_of_block h.lay)]; exact h.lay, owns_next h.own hB, Nat.le_trans h.size hB.size, h.below.trans (hB.mono h.below.size)⟩
theorem Pk.app (h : Pk w0 p ao cap big uns v l w) (hg : w.grownBy w' v.ownBlock) (ho : w'.ownsRow (w0.heap.size + 2) 5 1 v' l'.length (l'.map fun (b : Nat) => Value.int .u8 (b : Int))) : Pk w0 p ao cap big uns v' l' w' := by
  have hne : ∀ k, k < w0.heap.size + 2 → some k ≠ v.ownBlock := fun k hk e => by
    have := (h.own.lt k e.symm).1
    omega
  exact ⟨by rw [hg.block _ (lt_of_block h.box) (hne _ (by omega))]; exact h.box, by rw [hg.block _ (lt_of_block h.lay) (hne _ (by omega))]; exact h.lay, ho, Nat.le_trans h.size hg.size,
    h.below.trans ⟨hg.os, hg.tape, hg.output, hg.size, fun k hk => hg.block k (Nat.lt_of_lt_of_le hk (Nat.le_trans (by omega) h.size)) (hne k (by omega))⟩⟩
theorem Pk.c1 (h : Pk w0 p ao cap big uns v l w) : w.cell? ⟨w0.heap.size, 1, none⟩ = some (.int .i64 p.ch) := by rw [cell_of_row _ _ _ _ _ _ h.box]; rfl
theorem Pk.c2 (h : Pk w0 p ao cap big uns v l w) : w.cell? ⟨w0.heap.size, 2, none⟩ = some (.int .i64 p.wd) := by rw [cell_of_row _ _ _ _ _ _ h.box]; rfl
theorem Pk.c0 (h : Pk w0 p ao cap big uns v l w) : w.cell? ⟨w0.heap.size, 0, none⟩ = some (.int .i64 p.rate) := by rw [cell_of_row _ _ _ _ _ _ h.box]; rfl
theorem Pk.c3 (h : Pk w0 p ao cap big uns v l w) : w.cell? ⟨w0.heap.size, 3, none⟩ = some (.slice ao p.pl.length cap) := by rw [cell_of_row _ _ _ _ _ _ h.box]; rfl
theorem Pk.l0 (h : Pk w0 p ao cap big uns v l w) : w.cell? ⟨w0.heap.size + 1, 0, none⟩ = some (.bool big) := by rw [cell_of_row _ _ _ _ _ _ h.lay]; rfl
theorem Pk.l1 (h : Pk w0 p ao cap big uns v l w) : w.cell? ⟨w0.heap.size + 1, 1, none⟩ = some (.bool uns) := by rw [cell_of_row _ _ _ _ _ _ h.lay]; rfl
end
theorem Pk.new (w : World) (p : Pcm) (ao : Option Addr) (cap : Nat) (big uns : Bool) : Pk w p ao cap big uns (.slice none 0 0) [] ((w.alloc (.cells (pcmC p ao cap) 24)).alloc (.cells #[.bool big, .bool uns] 52)) := by
  refine ⟨?_, ?_, World.ownsRow_nil _ _ _ _, by simp, ((Below.refl w.heap.size w).alloc (Nat.le_refl _) _).alloc (by simp) _⟩
  · rw [Below.heap_alloc _ _ _ (by simp)]
    exact heap_alloc_new _ _
  · have h := heap_alloc_new (w.alloc (.cells (pcmC p ao cap) 24)) (.cells #[.bool big, .bool uns] 52)
    have e : (w.alloc (.cells (pcmC p ao cap) 24)).heap.size = w.heap.size + 1 := by simp
    rw [e] at h
    exact h

theorem strCells_textOf (l : List Nat) (h : ∀ b ∈ l, b < 256) : Lib.strCells (textOf l) = l.map fun (b : Nat) => Value.int .u8 (b : Int) := by
  unfold Lib.strCells textOf
  rw [List.map_map]
  apply List.map_congr_left
  intro b hb
  have := h b hb
  simp [UInt8.toNat_ofNat', Nat.mod_eq_of_lt this]

theorem conv_own {w : World} {base : Nat} {v : Value} {l : List Nat} (h : w.ownsRow base 5 1 v l.length (l.map fun (b : Nat) => Value.int .u8 (b : Int))) :
    (convert 81 9 v).run Try.prog w = .ok (.string (textOf l)) w := by
  have hc := h
  rcases h.2 with ⟨rfl, h0⟩ | ⟨g, c, cur, rfl, _, _, _, _, _, _⟩
  · rw [List.eq_nil_of_length_eq_zero h0]
    exact run_convert_bytes_nil w 81 5 Try.underlying81 Try.underlying5 0 0 9 Try.underlying9
  · rw [textOf_eq]
    refine run_convert_bytes_arg w 81 5 Try.underlying81 Try.underlying5 g 0 l.length c _ (by simp) (fun i hi => ?_) 9 Try.underlying9
    have := hc.cells (g := g) rfl i (.int .u8 (l[i] : Int)) (by rw [List.getElem?_map, List.getElem?_eq_getElem hi]; rfl)
    rw [Addr.add_mid] at this
    rw [this]
    simp [List.getD, hi]

/-- Pack's answer. -/
def packN (p : Pcm) (big uns : Bool) : ByteArray := if checkN p = 0 then textOf (packL p big uns (lenP p)) else ⟨#[]⟩

end Go.Proofs.Ytaepgjheknkojaa
