/- Own text: the program's Unpack: its answers, its boxes. the walk of the document's Pack, its beginning. chunks laid as bytes, plain laws. AIFF files, taken apart and built, as plain functions. -/
import Derived.Test.YtaepgjheknkojaaGreatG16x
import Derived.Test.YtaepgjheknkojaaGreatG6x
import Derived.Test.YtaepgjheknkojaaGreatG5x
import Derived.Test.YtaepgjheknkojaaGreatG11x
import Derived.Test.YtaepgjheknkojaaGreatRefbytes
import Derived.Lib.AppendStr
import Derived.Deep.MidRow
import Derived.Test.YtaepgjheknkojaaGreatR6chunks
import Derived.Test.YtaepgjheknkojaaGreatR7comm
namespace Go.Proofs.YtaepgjheknkojaaGreat
open Go.RowKit
set_option linter.unusedSimpArgs false
set_option linter.unusedVariables false

theorem res_two {fn : Func} {p t : Tmp} {ty : TypeId} (h : fn.results = #[.cell p ty, .tmp t]) (tmps : Array Value) (P : Program) (w : World) :
    (results fn tmps).run P w = ((asAddr (tmps.getD p undef)).run P w).andThen fun a w₁ => ((loadVar ty a).run P w₁).andThen fun x w₂ => .ok (.tuple #[x, tmps.getD t undef]) w₂ := by
  simp only [results, h]
  simp [Sem.run_bind, Result.andThen]
theorem blk_set (w : World) (p i : Nat) (cs : Array Value) (t : TypeId) (u : Value) (h : w.heap[p]? = some (.cells cs t (0, 0))) :
    (w.setCell ⟨p, i, none⟩ u).heap[p]? = some (.cells (cs.setIfInBounds i u) t (0, 0)) := by
  simp only [World.setCell, Array.getElem?_modify, h]
  simp
theorem infPcm : (Tryz.prog.info? 24).map (·.size) = some 4 := by kernel_rfl
abbrev zeroC : Array Value := #[.int .i64 0, .int .i64 0, .int .i64 0, .slice none 0 0]

/-- The i-th number of a text. -/
def numM (s : ByteArray) (wd : Int) (big uns : Bool) (i : Nat) : Int := decM wd uns (rawN (s.extract (i * nby wd) (i * nby wd + nby wd)) big)
/-- The list of lists that a function of two places is. -/
def matL (c n : Nat) (f : Nat → Nat → Int) : List (List Int) := (List.range c).map fun k => (List.range n).map (f k)
theorem matL_length (c n : Nat) (f : Nat → Nat → Int) : (matL c n f).length = c := by simp [matL]
theorem matL_at (c n : Nat) (f : Nat → Nat → Int) (k : Nat) (hk : k < c) : (matL c n f).getD k [] = (List.range n).map (f k) := by
  simp [matL, List.getD, hk]
theorem mat_rows {B c n : Nat} {f : Nat → Nat → Int} {w : World} (h : Mat B c n f w) (hc : c ≤ 8) (hn : n ≤ 1048576) (hf : ∀ k i, k < c → i < n → -9223372036854775808 ≤ f k i ∧ f k i ≤ 9223372036854775807) :
    RowsAt w (some ⟨B, 0, none⟩) (matL c n f) ∧ Fresh B w (some ⟨B, 0, none⟩) (matL c n f) := by
  have hlen := matL_length c n f
  have hcell : ∀ k, k < c → w.cell? ⟨B, k, none⟩ = some (.slice (some ⟨B + 1 + k, 0, none⟩) n n) := fun k hk => h.outer.cell hk
  refine ⟨⟨by omega, fun h0 => ⟨B, 0, rfl, fun i hi => ?_⟩⟩, ⟨fun b off e h0 => ?_, fun b off e i hi a m cc hcc ba oa ha => ?_⟩⟩
  · rw [hlen] at hi
    rw [matL_at c n f i hi, List.length_map, List.length_range]
    refine ⟨some ⟨B + 1 + i, 0, none⟩, n, ?_, Nat.le_refl _, fun e => (by cases e), ⟨?_, ?_, fun h0 => ⟨B + 1 + i, 0, rfl, fun j hj => ?_⟩⟩⟩
    · rw [Nat.zero_add]
      exact hcell i hi
    · rw [List.length_map, List.length_range]
      omega
    · intro x hx
      obtain ⟨j, hj, rfl⟩ := List.mem_map.1 hx
      exact hf i j hi (List.mem_range.1 hj)
    · rw [List.length_map, List.length_range] at hj
      rw [Nat.zero_add, (h.inner i hi).cell hj]
      simp [List.getD, hj]
  · injection e with e
    injection e with e1 e2
    omega
  · injection e with e
    injection e with e1 e2
    rw [hlen] at hi
    subst e1
    subst e2
    rw [Nat.zero_add, hcell i hi] at hcc
    injection hcc with hcc
    injection hcc with x1 x2 x3
    rw [ha] at x1
    injection x1 with x1
    injection x1 with y1 y2
    subst y1
    exact ⟨by omega, fun j => (h.inner i hi).frozen j⟩

theorem rows0 (w : World) (ao : Option Addr) : RowsAt w ao (⟨0, 0, 0, []⟩ : Pcm).pl := ⟨by simp, fun h => absurd h (by simp)⟩
theorem fresh0 (B : Nat) (w : World) (ao : Option Addr) : Fresh B w ao (⟨0, 0, 0, []⟩ : Pcm).pl := ⟨fun _ _ _ h => absurd h (by simp), fun _ _ _ i hi => absurd hi (by simp)⟩

/-- Unpack's error, and its samples. -/
def uE (s : ByteArray) (rate ch wd : Int) (big uns : Bool) : Int :=
  if mayB rate ch wd then (if s.size % (nby wd * ch.toNat) = 0 then (if 1048576 < s.size / (nby wd * ch.toNat) then 5 else
    (if ∀ i, i < s.size / nby wd → sampB (numM s wd big uns i) wd = true then 0 else 2)) else 2) else 50
def uL (s : ByteArray) (wd : Int) (big uns : Bool) (c n : Nat) : List (List Int) := matL c n fun k i => numM s wd big uns (i * c + k)
def uP (s : ByteArray) (rate ch wd : Int) (big uns : Bool) : Pcm := if uE s rate ch wd big uns = 0 then ⟨rate, ch, wd, uL s wd big uns ch.toNat (s.size / (nby wd * ch.toNat))⟩ else ⟨0, 0, 0, []⟩
def GivesU (w : World) (q : Pcm) (n : Int) (e : Ending) (w' : World) : Prop := ∃ ao' cap', e = .returned (.tuple #[pcmV q ao' cap', .int .i64 n]) ∧ RowsAt w' ao' q.pl ∧ Fresh w.heap.size w' ao' q.pl ∧ Below w.heap.size w w'

structure Ub (w0 : World) (s : ByteArray) (wd : Int) (big uns : Bool) (w : World) : Prop where
  sb : w.heap[w0.heap.size]? = some (.cells #[.string s] 9 (0, 0))
  wb : w.heap[w0.heap.size + 1]? = some (.cells #[.int .i64 wd] 3 (0, 0))
  lb : w.heap[w0.heap.size + 2]? = some (.cells #[.bool big, .bool uns] 59 (0, 0))
  res : w.heap[w0.heap.size + 3]? = some (.cells zeroC 24 (0, 0))
  below : Below w0.heap.size w0 w
theorem Ub.new (w : World) (s : ByteArray) (wd : Int) (big uns : Bool) : Ub w s wd big uns ((((w.alloc (.cells #[.string s] 9)).alloc (.cells #[.int .i64 wd] 3)).alloc (.cells #[.bool big, .bool uns] 59)).alloc (.cells zeroC 24)) := by
  have h : ∀ (w : World) (o : Obj), Below w.heap.size w (w.alloc o) := fun w o => (Below.refl _ _).alloc (Nat.le_refl _) _
  have s1 : (w.alloc (.cells #[.string s] 9)).heap.size = w.heap.size + 1 := by simp
  have s2 : ((w.alloc (.cells #[.string s] 9)).alloc (.cells #[.int .i64 wd] 3)).heap.size = w.heap.size + 2 := by simp
  have s3 : (((w.alloc (.cells #[.string s] 9)).alloc (.cells #[.int .i64 wd] 3)).alloc (.cells #[.bool big, .bool uns] 59)).heap.size = w.heap.size + 3 := by simp
  refine ⟨?_, ?_, ?_, ?_, (((h w _).alloc (by simp) _).alloc (by simp <;> omega) _).alloc (by simp <;> omega) _⟩
  · rw [(h _ _).block _ (by simp <;> omega), (h _ _).block _ (by simp <;> omega), (h _ _).block _ (by simp)]
    exact heap_alloc_new _ _
  · rw [(h _ _).block _ (by simp <;> omega), (h _ _).block _ (by simp), ← s1]
    exact heap_alloc_new _ _
  · rw [(h _ _).block _ (by simp), ← s2]
    exact heap_alloc_new _ _
  · rw [← s3]
    exact heap_alloc_new _ _
theorem Ub.next {w0 w w' : World} {s : ByteArray} {wd : Int} {big uns : Bool} (h : Ub w0 s wd big uns w) (hB : Below w.heap.size w w') : Ub w0 s wd big uns w' :=
  ⟨by rw [hB.block _ (lt_of_block h.sb)]; exact h.sb, by rw [hB.block _ (lt_of_block h.wb)]; exact h.wb, by rw [hB.block _ (lt_of_block h.lb)]; exact h.lb, by rw [hB.block _ (lt_of_block h.res)]; exact h.res, h.below.trans (hB.mono h.below.size)⟩

set_option maxRecDepth 20000 in
set_option maxHeartbeats 3200000 in
theorem unpack_head (s : ByteArray) (rate ch wd : Int) (big uns : Bool) (w : World) (hh : mayB rate ch wd = false) :
    Calls Tryz.prog 78 #[.string s, .int .i64 rate, .int .i64 ch, .int .i64 wd, .agg #[.bool big, .bool uns]] w fun e w' => GivesU w (uP s rate ch wd big uns) (uE s rate ch wd big uns) e w' := by
  have HN : Hid (uE s rate ch wd big uns = 50) := by
    show _ = _
    unfold uE
    rw [hh]
    rfl
  have HP : Hid (uP s rate ch wd big uns = ⟨0, 0, 0, []⟩) := by
    show _ = _
    unfold uP
    rw [HN.out]
    rfl
  have HU := Ub.new w s wd big uns
  have d1 : ((((w.alloc (.cells #[.string s] 9)).alloc (.cells #[.int .i64 wd] 3)).alloc (.cells #[.bool big, .bool uns] 59)).alloc (.cells zeroC 24)).cell? ⟨w.heap.size + 1, 0, none⟩ = some (.int .i64 wd) := by rw [cell_of_row _ _ _ _ _ _ HU.wb]; rfl
  have HUH : Hid (Ub w s wd big uns ((((w.alloc (.cells #[.string s] 9)).alloc (.cells #[.int .i64 wd] 3)).alloc (.cells #[.bool big, .bool uns] 59)).alloc (.cells zeroC 24))) := HU
  have km := mayBe_spec rate ch wd
  rw [hh] at km
  clear hh HU
  go_enter Tryz.func78, Tryz.ntmps78
  go_wp2_with fail
  refine (km _).mono ?_
  rintro e w2 ⟨rfl, rfl⟩
  go_wp2_with fail
  generalize hwf : World.alloc _ _ = wf
  have hu : Ub w s wd big uns wf := by
    rw [← hwf]
    exact HUH.out
  refine bodyPost_ret (v := .tuple #[.agg zeroC, .int .i64 50]) ?_ rfl ⟨none, 0, by rw [HP.out, HN.out]; rfl, by rw [HP.out]; exact rows0 _ _, by rw [HP.out]; exact fresh0 _ _ _, hu.below⟩
  rw [res_two rfl]
  have hld := run_loadVar_row (P := Tryz.prog) wf (w.heap.size + 1 + 1 + 1) 24 24 zeroC (0, 0) _ hu.res Tryz.underlying24 rfl infPcm
  simp [asAddr, Result.andThen, hld]

end Go.Proofs.YtaepgjheknkojaaGreat

namespace Go.Proofs.YtaepgjheknkojaaGreat
open Go.RowKit
set_option linter.unusedSimpArgs false
set_option linter.unusedVariables false

/-- On the way through Pack: the boxes, the bytes so far. -/
structure Pk (w0 : World) (p : Pcm) (ao : Option Addr) (cap : Nat) (big uns : Bool) (v : Value) (l : List Nat) (w : World) : Prop where
  box : w.heap[w0.heap.size]? = some (.cells (pcmC p ao cap) 24 (0, 0))
  lay : w.heap[w0.heap.size + 1]? = some (.cells #[.bool big, .bool uns] 59 (0, 0))
  own : w.ownsRow (w0.heap.size + 2) 5 1 v l.length (l.map fun (b : Nat) => Value.int .u8 (b : Int))
  size : w0.heap.size + 2 ≤ w.heap.size
  below : Below w0.heap.size w0 w
theorem grown_of {w w' : World} (h : Below w.heap.size w w') (row : Option Nat) : w.grownBy w' row := ⟨h.os, h.tape, h.output, h.size, fun k hk _ => h.block k hk⟩
theorem owns_next {w w' : World} {base : Nat} {e : TypeId} {size : Nat} {v : Value} {n : Nat} {xs : List Value} (h : w.ownsRow base e size v n xs) (hB : Below w.heap.size w w') : w'.ownsRow base e size v n xs :=
  h.kept (row := none) (grown_of hB none) (by cases hv : v.ownBlock <;> simp)
section
variable {w0 w w' : World} {p : Pcm} {ao : Option Addr} {cap : Nat} {big uns : Bool} {v v' : Value} {l l' : List Nat}
theorem Pk.next (h : Pk w0 p ao cap big uns v l w) (hB : Below w.heap.size w w') : Pk w0 p ao cap big uns v l w' :=
  ⟨by rw [hB.block _ (lt_of_block h.box)]; exact h.box, by rw [hB.block _ (lt_of_block h.lay)]; exact h.lay, owns_next h.own hB, Nat.le_trans h.size hB.size, h.below.trans (hB.mono h.below.size)⟩
theorem Pk.app (h : Pk w0 p ao cap big uns v l w) (hg : w.grownBy w' v.ownBlock) (ho : w'.ownsRow (w0.heap.size + 2) 5 1 v' l'.length (l'.map fun (b : Nat) => Value.int .u8 (b : Int))) : Pk w0 p ao cap big uns v' l' w' := by
  have hne : ∀ k, k < w0.heap.size + 2 → some k ≠ v.ownBlock := fun k hk e => by
    have := (h.own.lt k e.symm).1
    omega
  exact ⟨by rw [hg.block _ (lt_of_block h.box) (hne _ (by omega))]; exact h.box, by rw [hg.block _ (lt_of_block h.lay) (hne _ (by omega))]; exact h.lay, ho, Nat.le_trans h.size hg.size,
    h.below.trans ⟨hg.os, hg.tape, hg.output, hg.size, fun k hk => hg.block k (Nat.lt_of_lt_of_le hk (Nat.le_trans (by omega) h.size)) (hne k (by omega))⟩⟩
theorem Pk.c1 (h : Pk w0 p ao cap big uns v l w) : w.cell? ⟨w0.heap.size, 1, none⟩ = some (.int .i64 p.ch) := by rw [cell_of_row _ _ _ _ _ _ h.box]; rfl
theorem Pk.c2 (h : Pk w0 p ao cap big uns v l w) : w.cell? ⟨w0.heap.size, 2, none⟩ = some (.int .i64 p.wd) := by rw [cell_of_row _ _ _ _ _ _ h.box]; rfl
theorem Pk.c0 (h : Pk w0 p ao cap big uns v l w) : w.cell? ⟨w0.heap.size, 0, none⟩ = some (.int .i64 p.rate) := by rw [cell_of_row _ _ _ _ _ _ h.box]; rfl
theorem Pk.c3 (h : Pk w0 p ao cap big uns v l w) : w.cell? ⟨w0.heap.size, 3, none⟩ = some (.slice ao p.pl.length cap) := by rw [cell_of_row _ _ _ _ _ _ h.box]; rfl
theorem Pk.l0 (h : Pk w0 p ao cap big uns v l w) : w.cell? ⟨w0.heap.size + 1, 0, none⟩ = some (.bool big) := by rw [cell_of_row _ _ _ _ _ _ h.lay]; rfl
theorem Pk.l1 (h : Pk w0 p ao cap big uns v l w) : w.cell? ⟨w0.heap.size + 1, 1, none⟩ = some (.bool uns) := by rw [cell_of_row _ _ _ _ _ _ h.lay]; rfl
end
theorem Pk.new (w : World) (p : Pcm) (ao : Option Addr) (cap : Nat) (big uns : Bool) : Pk w p ao cap big uns (.slice none 0 0) [] ((w.alloc (.cells (pcmC p ao cap) 24)).alloc (.cells #[.bool big, .bool uns] 59)) := by
  refine ⟨?_, ?_, World.ownsRow_nil _ _ _ _, by simp, ((Below.refl w.heap.size w).alloc (Nat.le_refl _) _).alloc (by simp) _⟩
  · rw [Below.heap_alloc _ _ _ (by simp)]
    exact heap_alloc_new _ _
  · have h := heap_alloc_new (w.alloc (.cells (pcmC p ao cap) 24)) (.cells #[.bool big, .bool uns] 59)
    have e : (w.alloc (.cells (pcmC p ao cap) 24)).heap.size = w.heap.size + 1 := by simp
    rw [e] at h
    exact h

theorem strCells_textOf (l : List Nat) (h : ∀ b ∈ l, b < 256) : Lib.strCells (textOf l) = l.map fun (b : Nat) => Value.int .u8 (b : Int) := by
  unfold Lib.strCells textOf
  rw [List.map_map]
  apply List.map_congr_left
  intro b hb
  have := h b hb
  simp [UInt8.toNat_ofNat', Nat.mod_eq_of_lt this]

theorem conv_own {w : World} {base : Nat} {v : Value} {l : List Nat} (h : w.ownsRow base 5 1 v l.length (l.map fun (b : Nat) => Value.int .u8 (b : Int))) :
    (convert 107 9 v).run Tryz.prog w = .ok (.string (textOf l)) w := by
  have hc := h
  rcases h.2 with ⟨rfl, h0⟩ | ⟨g, c, cur, rfl, _, _, _, _, _, _⟩
  · rw [List.eq_nil_of_length_eq_zero h0]
    exact run_convert_bytes_nil w 107 5 Tryz.underlying107 Tryz.underlying5 0 0 9 Tryz.underlying9
  · rw [textOf_eq]
    refine run_convert_bytes_arg w 107 5 Tryz.underlying107 Tryz.underlying5 g 0 l.length c _ (by simp) (fun i hi => ?_) 9 Tryz.underlying9
    have := hc.cells (g := g) rfl i (.int .u8 (l[i] : Int)) (by rw [List.getElem?_map, List.getElem?_eq_getElem hi]; rfl)
    rw [Addr.add_mid] at this
    rw [this]
    simp [List.getD, hi]

/-- Pack's answer. -/
def packN (p : Pcm) (big uns : Bool) : ByteArray := if checkN p = 0 then textOf (packL p big uns (lenP p)) else ⟨#[]⟩

set_option maxRecDepth 20000 in
set_option maxHeartbeats 3200000 in
theorem rpack_no (p : Pcm) (ao : Option Addr) (cap : Nat) (big uns : Bool) (w : World) (hr : RowsAt w ao p.pl) (hc : ¬ checkN p = 0) :
    Calls Tryz.prog 35 #[pcmV p ao cap, .agg #[.bool big, .bool uns]] w fun e w' => e = .returned (.tuple #[.string ⟨#[]⟩, .int .i64 (checkN p)]) ∧ Below w.heap.size w w' := by
  have HP : Hid (Pk w p ao cap big uns (.slice none 0 0) [] ((w.alloc (.cells (pcmC p ao cap) 24)).alloc (.cells #[.bool big, .bool uns] 59))) := Pk.new w p ao cap big uns
  have HR : Hid (RowsAt w ao p.pl) := hr
  clear hr
  go_enter Tryz.func35, Tryz.ntmps35
  go_wp2_with fail
  generalize hwa : World.alloc _ _ = wa
  have HA : Hid (Pk w p ao cap big uns (.slice none 0 0) [] wa) := by
    rw [← hwa]
    exact HP.out
  clear hwa HP
  refine (rcheck_spec p ao cap wa (HR.out.below HA.out.below)).mono ?_
  rintro e w4 ⟨rfl, hB⟩
  have HB : Hid (Below w.heap.size w w4) := HA.out.below.trans (hB.mono HA.out.below.size)
  clear hB
  go_wp2
  go_ret2
  exact ⟨rfl, HB.out⟩

end Go.Proofs.YtaepgjheknkojaaGreat

namespace Go.Proofs.YtaepgjheknkojaaGreat
open Go.RowKit
set_option linter.unusedSimpArgs false
set_option linter.unusedVariables false

def oddC (c : Chk) : Bool := decide (c.body.size % 2 = 1)
def layOk (c : Chk) (last : Bool) : Bool := idB c.id && (decide ((if oddC c && last then -1 else 0) ≤ c.pad) && decide (c.pad ≤ if oddC c then 255 else 0))
def headC (c : Chk) (big : Bool) : ByteArray := c.id ++ toT (c.body.size : Int) big ++ c.body
def tailC (c : Chk) : List Nat := if oddC c = true ∧ 0 ≤ c.pad then [c.pad.toNat] else []
def layOne (c : Chk) (big : Bool) : List Nat := bytesOf (headC c big) ++ tailC c
def layL (l : List Chk) (big : Bool) : List Nat := l.flatMap fun c => layOne c big
def layAll : List Chk → Bool
  | [] => true
  | [c] => layOk c true
  | c :: d :: t => layOk c false && layAll (d :: t)
theorem layAll_iff : ∀ l : List Chk, layAll l = true ↔ ∀ (i : Nat) (c : Chk), l[i]? = some c → layOk c (decide (i + 1 = l.length)) = true
  | [] => ⟨fun _ i c h => by simp at h, fun _ => rfl⟩
  | [c] => by
    constructor
    · intro h i d hd
      cases i with
      | zero =>
        simp at hd
        subst hd
        exact h
      | succ i => simp at hd
    · intro h
      exact h 0 c rfl
  | c :: d :: t => by
    have ih := layAll_iff (d :: t)
    constructor
    · intro h i e he
      obtain ⟨h1, h2⟩ := Bool.and_eq_true_iff.1 (show (layOk c false && layAll (d :: t)) = true from h)
      cases i with
      | zero =>
        simp at he
        subst he
        rw [show decide (0 + 1 = (c :: d :: t).length) = false from decide_eq_false (by simp)]
        exact h1
      | succ i =>
        have := ih.1 h2 i e (by simpa using he)
        rw [show decide (i + 1 + 1 = (c :: d :: t).length) = decide (i + 1 = (d :: t).length) from by simp]
        exact this
    · intro h
      show (layOk c false && layAll (d :: t)) = true
      rw [Bool.and_eq_true_iff]
      refine ⟨?_, ih.2 fun i e he => ?_⟩
      · have := h 0 c rfl
        rwa [show decide (0 + 1 = (c :: d :: t).length) = false from decide_eq_false (by simp)] at this
      · have := h (i + 1) e (by simpa using he)
        rwa [show decide (i + 1 + 1 = (c :: d :: t).length) = decide (i + 1 = (d :: t).length) from by simp] at this
/-- Lay's error and text. -/
def layE (l : List Chk) : Int := if l.length ≤ 1024 ∧ layAll l = true then 0 else 60
def layT (l : List Chk) (big : Bool) : ByteArray := if l.length ≤ 1024 ∧ layAll l = true then textOf (layL l big) else ⟨#[]⟩
theorem lay_no (l : List Chk) (big : Bool) (i : Nat) (c : Chk) (hi : l[i]? = some c) (h : layOk c (decide (i + 1 = l.length)) = false) : layE l = 60 ∧ layT l big = ⟨#[]⟩ := by
  have hn : ¬ (l.length ≤ 1024 ∧ layAll l = true) := fun q => by
    rw [(layAll_iff l).1 q.2 i c hi] at h
    cases h
  unfold layE layT
  rw [if_neg hn, if_neg hn]
  exact ⟨rfl, rfl⟩
theorem lay_many (l : List Chk) (big : Bool) (h : ¬ l.length ≤ 1024) : layE l = 60 ∧ layT l big = ⟨#[]⟩ := by
  have hn : ¬ (l.length ≤ 1024 ∧ layAll l = true) := fun q => h q.1
  unfold layE layT
  rw [if_neg hn, if_neg hn]
  exact ⟨rfl, rfl⟩
theorem lay_yes (l : List Chk) (big : Bool) (hl : l.length ≤ 1024) (h : ∀ (i : Nat) (c : Chk), l[i]? = some c → layOk c (decide (i + 1 = l.length)) = true) : layE l = 0 ∧ layT l big = textOf (layL l big) := by
  have hn : l.length ≤ 1024 ∧ layAll l = true := ⟨hl, (layAll_iff l).2 h⟩
  unfold layE layT
  rw [if_pos hn, if_pos hn]
  exact ⟨rfl, rfl⟩
theorem layL_take (l : List Chk) (big : Bool) (i : Nat) (c : Chk) (h : l[i]? = some c) : layL (l.take (i + 1)) big = layL (l.take i) big ++ layOne c big := by
  obtain ⟨hi, rfl⟩ := List.getElem?_eq_some_iff.1 h
  unfold layL
  rw [List.take_succ_eq_append_getElem hi, List.flatMap_append]
  simp
theorem layL_pre (l : List Chk) (big : Bool) (i : Nat) : (layL (l.take i) big).length ≤ (layL l big).length := by
  have e : layL l big = layL (l.take i) big ++ layL (l.drop i) big := by
    unfold layL
    rw [← List.flatMap_append, List.take_append_drop]
  rw [e, List.length_append]
  omega
theorem layL_lt (l : List Chk) (big : Bool) (h : ∀ (i : Nat) (c : Chk), l[i]? = some c → layOk c (decide (i + 1 = l.length)) = true) : ∀ b ∈ layL l big, b < 256 := by
  intro b hb
  unfold layL at hb
  obtain ⟨c, hc, hb⟩ := List.mem_flatMap.1 hb
  obtain ⟨i, hi⟩ := List.mem_iff_getElem?.1 hc
  rcases List.mem_append.1 hb with hb | hb
  · exact bytesOf_lt _ b hb
  · unfold tailC at hb
    split at hb
    · rename_i hq
      have hk := h i c hi
      unfold layOk at hk
      obtain ⟨_, hk⟩ := Bool.and_eq_true_iff.1 hk
      obtain ⟨_, hk⟩ := Bool.and_eq_true_iff.1 hk
      rw [hq.1, if_pos rfl] at hk
      have := of_decide_eq_true hk
      rw [List.mem_singleton] at hb
      omega
    · cases hb
/-- Bytes that a call owns and that grow. -/
structure Gb (w0 : World) (v : Value) (l : List Nat) (w : World) : Prop where
  own : w.ownsRow w0.heap.size 5 1 v l.length (l.map fun (b : Nat) => Value.int .u8 (b : Int))
  below : Below w0.heap.size w0 w
section
variable {w0 w w' : World} {v v' : Value} {l l' : List Nat}
theorem Gb.next (h : Gb w0 v l w) (hB : Below w.heap.size w w') : Gb w0 v l w' := ⟨owns_below h.own hB, h.below.trans (hB.mono h.below.size)⟩
theorem Gb.app (h : Gb w0 v l w) (hg : w.grownBy w' v.ownBlock) (ho : w'.ownsRow w0.heap.size 5 1 v' l'.length (l'.map fun (b : Nat) => Value.int .u8 (b : Int))) : Gb w0 v' l' w' :=
  ⟨ho, grown_to hg h.below h.below.size (fun k e => (h.own.lt k e).1)⟩
theorem Gb.shape (h : Gb w0 v l w) : ∃ va vc, v = .slice va l.length vc := by
  rcases h.own.2 with ⟨e, e0⟩ | ⟨g, cap, cur, e, _⟩
  · exact ⟨_, _, by rw [e, e0]⟩
  · exact ⟨_, _, e⟩
end
theorem strCells_bytes (s : ByteArray) : Lib.strCells s = (bytesOf s).map fun (b : Nat) => Value.int .u8 (b : Int) := by
  unfold Lib.strCells bytesOf
  rw [List.map_map]
  rfl
/-- Append of a text to bytes that the call owns, in a region that draws. -/
theorem step_append_str {P : Program} (w : World) {ops : Array Oper} {o : Oper} {a : Act} {K : Act → World → Prop} {Q : Exit → Act → World → Prop} {E : Prop} (hgd : o.guard = none) (sl x : Operand) (t u : TypeId)
    (ho : o.op = .call { callee := .builtin .append, args := #[sl, x], argTypes := #[t, u] }) (w0 : World) (i : TypeInfo) (ht : P.underlying t = some (.slice 5)) (hu : P.underlying u = some .string) (hi : P.info? 5 = some i) (hz : i.zero = some (.int .u8 0))
    (hsize : i.size = 1) (hby : i.bytes = 1) (v : Value) (l : List Nat) (hs : a.eval sl = v) (hown : Gb w0 v l w) (s : ByteArray) (hx : a.eval x = .string s)
    (hbytes : l.length + s.size ≤ 140737488355328)
    (h : ∀ v' w', Hid (Gb w0 v' (l ++ bytesOf s) w') → K (a.put o.dst v') w') : if Region.wanted o (yielded ops a.tmps) = true then Oper.wp P o a w K Q else E := by
  have hw : Region.wanted o (yielded ops a.tmps) = true := by simp [Region.wanted, hgd]
  rw [if_pos hw]
  obtain ⟨v', w', hr, h2, h3, h4⟩ := Lib.run_append_own_string (P := P) w w0.heap.size t u o.type 5 i ht hu hi hz hsize hby v l.length _ hown.own s (by simp only [maxLen]; omega) hbytes hown.below.size
  unfold Oper.wp execOp
  simp only [ho, resolve, invoke, builtin, Sem.run_bind, Sem.run_pure, Result.andThen_ok, List.map_toArray, List.map_cons, List.map_nil, hs, hx, hr]
  refine h v' w' (hown.app h3 ?_)
  rw [List.length_append, bytesOf_length, List.map_append, ← strCells_bytes]
  exact h2

end Go.Proofs.YtaepgjheknkojaaGreat

namespace Go.Proofs.YtaepgjheknkojaaGreat
open Go.RowKit
set_option linter.unusedSimpArgs false
set_option linter.unusedVariables false

def formT : ByteArray := ⟨#[70, 79, 82, 77]⟩
def aifcT : ByteArray := ⟨#[65, 73, 70, 67]⟩
def commT : ByteArray := ⟨#[67, 79, 77, 77]⟩
def ssndT : ByteArray := ⟨#[83, 83, 78, 68]⟩
theorem form_list : formT.toList = [70, 79, 82, 77] := by rw [ByteArray.toList_eq]; rfl
theorem aiff_list : aiffT.toList = [65, 73, 70, 70] := by rw [ByteArray.toList_eq]; rfl
theorem aifc_list : aifcT.toList = [65, 73, 70, 67] := by rw [ByteArray.toList_eq]; rfl
theorem comm_list : commT.toList = [67, 79, 77, 77] := by rw [ByteArray.toList_eq]; rfl
theorem ssnd_list : ssndT.toList = [83, 83, 78, 68] := by rw [ByteArray.toList_eq]; rfl
/-- Which files begin as an AIFF does. -/
def begB7 (s : ByteArray) : Bool := !decide ((s.size : Int) < 12) && ((s.extract 0 4).toList == formT.toList && ((s.extract 8 12).toList == aiffT.toList || (s.extract 8 12).toList == aifcT.toList))
def formB (f : ByteArray) : Bool := f.toList == aiffT.toList || f.toList == aifcT.toList
/-- Is it a form whose COMM names a compression? -/
def kB (f : ByteArray) : Bool := !(f.toList == aiffT.toList)
def headT7 (f : ByteArray) (n : Int) : ByteArray := formT ++ beT (n - 8) 4 ++ f
def wdB (w : Int) : Bool := w == 8 || (w == 16 || (w == 24 || w == 32))
def againE (x : Com) : Int := if x.ch == 0 then 2 else if decide (8 < x.ch) || !wdB x.wd then 3 else if decide (1048576 < x.smp) then 5 else 0
def wholeB (s : ByteArray) (c : Bool) : Bool := if c then decide (23 ≤ s.size) && decide (s.size = comN s) else decide (s.size = 18)
def kindT (s : ByteArray) (c : Bool) : ByteArray := if c then s.extract 18 22 else noneT
def atC (l : List Chk) (i : Int) : Chk := l.getD i.toNat noC
/-- The place of SSND, -1: there is none. -/
def snI (l : List Chk) : Int := (findN l ssndT).1
def lkB (f : ByteArray) (l : List Chk) : Bool := formB f && ((findN l commT).2 == 1 && !decide (1 < (findN l ssndT).2))
def cmB (l : List Chk) : ByteArray := (atC l (findN l commT).1).body
def lkE (f : ByteArray) (l : List Chk) : Int := if lkB f l then comE (cmB l) (kB f) else 2
def lkX (f : ByteArray) (l : List Chk) : Com := if lkB f l then comR (cmB l) (kB f) else noCom
def lkI (f : ByteArray) (l : List Chk) : Int := if lkB f l then snI l else 0
def stN (b : ByteArray) : Int := 8 + beI b 0 4
def stI (b : ByteArray) : Int := if 8 ≤ b.size then stN b else 0
def stB (b : ByteArray) : Bool := decide (8 ≤ b.size) && decide (stN b ≤ (b.size : Int))
def smpS (l : List Chk) (i : Int) : ByteArray := if i = -1 then ⟨#[]⟩ else (atC l i).body.extract (stN (atC l i).body).toNat (atC l i).body.size
def cut7C (c : Chk) : Chk := ⟨c.id, c.body.extract 0 (stN c.body).toNat, c.pad⟩
def cut7L (l : List Chk) (i : Int) : List Chk := if i = -1 then l else l.set i.toNat (cut7C (atC l i))
def wantN (x : Com) : Int := x.smp * x.ch * x.wd / 8
def cut7E (l : List Chk) (x : Com) (i : Int) : Int := if i != -1 && !stB (atC l i).body then 2 else if ((smpS l i).size : Int) != wantN x then 2 else 0
def opE (s : ByteArray) : Int := if begB7 s then (if 67108864 < s.size then 5 else if beI s 4 8 != (s.size : Int) - 8 then 2 else (chunksN (s.extract 12 s.size) true).2) else 3
def opL (s : ByteArray) : List Chk := (chunksN (s.extract 12 s.size) true).1
def opF (s : ByteArray) : ByteArray := s.extract 8 12
def opX (s : ByteArray) : Com := lkX (opF s) (opL s)
def opI (s : ByteArray) : Int := lkI (opF s) (opL s)
def opS (s : ByteArray) : ByteArray := smpS (opL s) (opI s)
def p7P (s : ByteArray) : Pcm := uP (opS s) (opX s).rate (opX s).ch (opX s).wd (!(opX s).lit) false
def p7L (s : ByteArray) : List Chk := cut7L (opL s) (opI s)
def p7E (s : ByteArray) : Int :=
  if opE s = 0 then (if lkE (opF s) (opL s) = 0 then (if cut7E (opL s) (opX s) (opI s) = 0 then uE (opS s) (opX s).rate (opX s).ch (opX s).wd (!(opX s).lit) false else 2) else lkE (opF s) (opL s)) else opE s
/-- What Build makes. -/
def smp7 (p : Pcm) (x : Com) : ByteArray := pakN p (!x.lit) false
def isOfB (x : Com) (p : Pcm) : Bool := x.rate == p.rate && (x.ch == p.ch && (x.wd == p.wd && x.smp == (lenP p : Int)))
def holdB (l : List Chk) (i : Int) (d : ByteArray) : Bool := if i == -1 then d.toList.isEmpty else stB (atC l i).body && stI (atC l i).body == ((atC l i).body.size : Int)
def filC7 (c : Chk) (d : ByteArray) : Chk := ⟨c.id, c.body ++ d, c.pad⟩
def filL (l : List Chk) (i : Int) (d : ByteArray) : List Chk := if i = -1 then l else l.set i.toNat (filC7 (atC l i) d)
def bodL (l : List Chk) : Nat := (l.map fun c => c.body.size).sum
def roomB (l : List Chk) : Bool := decide (bodL l ≤ 67108864)
def bl7 (p : Pcm) (f : ByteArray) (l : List Chk) : List Chk := filL l (lkI f l) (smp7 p (lkX f l))
def laidB (L : List Chk) : Bool := roomB L && (layE L == 0 && !decide (67108864 < 12 + ((layT L true).size : Int)))
def ok7 (p : Pcm) (f : ByteArray) (l : List Chk) : Bool := lkE f l == 0 && (isOfB (lkX f l) p && (holdB l (lkI f l) (smp7 p (lkX f l)) && laidB (bl7 p f l)))
def b7E (p : Pcm) (f : ByteArray) (l : List Chk) : Int := if fitsN 2 p = 0 then (if ok7 p f l then 0 else 60) else fitsN 2 p
def b7T (p : Pcm) (f : ByteArray) (l : List Chk) : ByteArray := if b7E p f l = 0 then headT7 f (12 + ((layT (bl7 p f l) true).size : Int)) ++ layT (bl7 p f l) true else ⟨#[]⟩

end Go.Proofs.YtaepgjheknkojaaGreat
