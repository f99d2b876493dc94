/- Own text: samples as bytes, plain laws. the walk of the document's Pack, its beginning. chunks laid as bytes, plain laws. -/
import Derived.Test.YtfnkdahocehilaaGreatG3x
import Derived.Test.YtfnkdahocehilaaGreatG1x
import Derived.Test.YtfnkdahocehilaaGreatG5x
import Derived.Test.YtfnkdahocehilaaGreatRefbytes
import Derived.Lib.AppendStr
import Derived.Deep.MidRow
import Derived.Test.YtfnkdahocehilaaGreatR6chunks
namespace Go.Proofs.YtfnkdahocehilaaGreat
open Go.RowKit
set_option linter.unusedSimpArgs false
set_option linter.unusedVariables false

def nby (wd : Int) : Nat := ((wd + 7) / 8).toNat
def codeN (wd : Int) (uns : Bool) (n : Int) : Int := if uns then n + 2 ^ (wd - 1).toNat else if n < 0 then n + 2 ^ (8 * nby wd) else n
def codeL (big : Bool) (wd : Int) (uns : Bool) (n : Int) : List Nat := if big then highL (codeN wd uns n).toNat (nby wd) else lowL (codeN wd uns n).toNat (nby wd)
/-- The first k channels of sample i. -/
def frameL (p : Pcm) (big uns : Bool) (i k : Nat) : List Nat := (List.range k).flatMap fun c => codeL big p.wd uns ((p.pl.getD c []).getD i 0)
/-- The first i samples. -/
def packL (p : Pcm) (big uns : Bool) (i : Nat) : List Nat := (List.range i).flatMap fun j => frameL p big uns j p.ch.toNat

theorem codeL_length (big : Bool) (wd : Int) (uns : Bool) (n : Int) : (codeL big wd uns n).length = nby wd := by
  unfold codeL
  split
  · rw [highL_length]
  · rw [lowL_length]
theorem codeL_lt (big : Bool) (wd : Int) (uns : Bool) (n : Int) : ∀ b ∈ codeL big wd uns n, b < 256 := by
  unfold codeL
  split
  · exact highL_lt _ _
  · exact lowL_lt _ _
theorem frameL_succ (p : Pcm) (big uns : Bool) (i k : Nat) : frameL p big uns i (k + 1) = frameL p big uns i k ++ codeL big p.wd uns ((p.pl.getD k []).getD i 0) := by
  unfold frameL
  rw [List.range_succ, List.flatMap_append]
  simp
theorem packL_succ (p : Pcm) (big uns : Bool) (i : Nat) : packL p big uns (i + 1) = packL p big uns i ++ frameL p big uns i p.ch.toNat := by
  unfold packL
  rw [List.range_succ, List.flatMap_append]
  simp
theorem frameL_length (p : Pcm) (big uns : Bool) (i : Nat) : ∀ k, (frameL p big uns i k).length = k * nby p.wd
  | 0 => by rw [Nat.zero_mul]; rfl
  | k + 1 => by rw [frameL_succ, List.length_append, frameL_length p big uns i k, codeL_length, Nat.succ_mul]
theorem packL_length (p : Pcm) (big uns : Bool) : ∀ i, (packL p big uns i).length = i * (p.ch.toNat * nby p.wd)
  | 0 => by rw [Nat.zero_mul]; rfl
  | i + 1 => by rw [packL_succ, List.length_append, packL_length p big uns i, frameL_length, Nat.succ_mul]
theorem frameL_lt (p : Pcm) (big uns : Bool) (i k : Nat) : ∀ b ∈ frameL p big uns i k, b < 256 := by
  intro b hb
  obtain ⟨c, _, h⟩ := List.mem_flatMap.1 hb
  exact codeL_lt _ _ _ _ b h
theorem packL_lt (p : Pcm) (big uns : Bool) (i : Nat) : ∀ b ∈ packL p big uns i, b < 256 := by
  intro b hb
  obtain ⟨c, _, h⟩ := List.mem_flatMap.1 hb
  exact frameL_lt _ _ _ _ _ b h

theorem nby_range (wd : Int) (h4 : 4 ≤ wd) (h32 : wd ≤ 32) : 1 ≤ nby wd ∧ nby wd ≤ 4 ∧ wd ≤ 8 * (nby wd : Int) ∧ (nby wd : Int) = (wd + 7) / 8 := by
  unfold nby
  omega

theorem pow_eq (k : Nat) : (2 : Int) ^ k = ((2 ^ k : Nat) : Int) := by simp
theorem pow256 (k : Nat) : (2 : Nat) ^ (8 * k) = 256 ^ k := by rw [Nat.pow_mul]

/-- A sample's code fits its bytes. -/
theorem codeN_fits (wd : Int) (uns : Bool) (n : Int) (h4 : 4 ≤ wd) (h32 : wd ≤ 32) (hs : sampB n wd = true) : 0 ≤ codeN wd uns n ∧ codeN wd uns n < 256 ^ nby wd ∧ codeN wd uns n ≤ 4294967295 := by
  obtain ⟨n1, n2, n3, n4⟩ := nby_range wd h4 h32
  have hs' := of_decide_eq_true hs
  have hp : (2 : Nat) ^ (wd - 1).toNat * 2 ≤ 256 ^ nby wd := by
    rw [← pow256, ← Nat.pow_succ]
    exact Nat.pow_le_pow_right (by decide) (by omega)
  have hq : 256 ^ nby wd ≤ 256 ^ 4 := Nat.pow_le_pow_right (by decide) n2
  have e4 : (256 : Nat) ^ 4 = 4294967296 := by decide
  have eI : (256 : Int) ^ nby wd = ((256 ^ nby wd : Nat) : Int) := by simp
  rw [eI]
  unfold codeN
  rw [pow_eq, pow_eq] at *
  rw [pow256]
  have h0 : 0 < 2 ^ (wd - 1).toNat := Nat.pow_pos (by decide)
  generalize (2 : Nat) ^ (wd - 1).toNat = H at *
  generalize (256 : Nat) ^ nby wd = M at *
  split
  · omega
  · split <;> omega

end Go.Proofs.YtfnkdahocehilaaGreat

namespace Go.Proofs.YtfnkdahocehilaaGreat
open Go.RowKit
set_option linter.unusedSimpArgs false
set_option linter.unusedVariables false

/-- On the way through Pack: the boxes, the bytes so far. -/
structure Pk (w0 : World) (p : Pcm) (ao : Option Addr) (cap : Nat) (big uns : Bool) (v : Value) (l : List Nat) (w : World) : Prop where
  box : w.heap[w0.heap.size]? = some (.cells (pcmC p ao cap) 37 (0, 0))
  lay : w.heap[w0.heap.size + 1]? = some (.cells #[.bool big, .bool uns] 77 (0, 0))
  own : w.ownsRow (w0.heap.size + 2) 5 1 v l.length (l.map fun (b : Nat) => Value.int .u8 (b : Int))
  size : w0.heap.size + 2 ≤ w.heap.size
  below : Below w0.heap.size w0 w
theorem grown_of {w w' : World} (h : Below w.heap.size w w') (row : Option Nat) : w.grownBy w' row := ⟨h.os, h.tape, h.output, h.size, fun k hk _ => h.block k hk⟩
theorem owns_next {w w' : World} {base : Nat} {e : TypeId} {size : Nat} {v : Value} {n : Nat} {xs : List Value} (h : w.ownsRow base e size v n xs) (hB : Below w.heap.size w w') : w'.ownsRow base e size v n xs :=
  h.kept (row := none) (grown_of hB none) (by cases hv : v.ownBlock <;> simp)
section
variable {w0 w w' : World} {p : Pcm} {ao : Option Addr} {cap : Nat} {big uns : Bool} {v v' : Value} {l l' : List Nat}
theorem Pk.next (h : Pk w0 p ao cap big uns v l w) (hB : Below w.heap.size w w') : Pk w0 p ao cap big uns v l w' :=
  ⟨by rw [hB.block _ (lt_of_block h.box)]; exact h.box, by rw [hB.block _ (lt_of_block h.lay)]; exact h.lay, owns_next h.own hB, Nat.le_trans h.size hB.size, h.below.trans (hB.mono h.below.size)⟩
theorem Pk.app (h : Pk w0 p ao cap big uns v l w) (hg : w.grownBy w' v.ownBlock) (ho : w'.ownsRow (w0.heap.size + 2) 5 1 v' l'.length (l'.map fun (b : Nat) => Value.int .u8 (b : Int))) : Pk w0 p ao cap big uns v' l' w' := by
  have hne : ∀ k, k < w0.heap.size + 2 → some k ≠ v.ownBlock := fun k hk e => by
    have := (h.own.lt k e.symm).1
    omega
  exact ⟨by rw [hg.block _ (lt_of_block h.box) (hne _ (by omega))]; exact h.box, by rw [hg.block _ (lt_of_block h.lay) (hne _ (by omega))]; exact h.lay, ho, Nat.le_trans h.size hg.size,
    h.below.trans ⟨hg.os, hg.tape, hg.output, hg.size, fun k hk => hg.block k (Nat.lt_of_lt_of_le hk (Nat.le_trans (by omega) h.size)) (hne k (by omega))⟩⟩
theorem Pk.c1 (h : Pk w0 p ao cap big uns v l w) : w.cell? ⟨w0.heap.size, 1, none⟩ = some (.int .i64 p.ch) := by rw [cell_of_row _ _ _ _ _ _ h.box]; rfl
theorem Pk.c2 (h : Pk w0 p ao cap big uns v l w) : w.cell? ⟨w0.heap.size, 2, none⟩ = some (.int .i64 p.wd) := by rw [cell_of_row _ _ _ _ _ _ h.box]; rfl
theorem Pk.c0 (h : Pk w0 p ao cap big uns v l w) : w.cell? ⟨w0.heap.size, 0, none⟩ = some (.int .i64 p.rate) := by rw [cell_of_row _ _ _ _ _ _ h.box]; rfl
theorem Pk.c3 (h : Pk w0 p ao cap big uns v l w) : w.cell? ⟨w0.heap.size, 3, none⟩ = some (.slice ao p.pl.length cap) := by rw [cell_of_row _ _ _ _ _ _ h.box]; rfl
theorem Pk.l0 (h : Pk w0 p ao cap big uns v l w) : w.cell? ⟨w0.heap.size + 1, 0, none⟩ = some (.bool big) := by rw [cell_of_row _ _ _ _ _ _ h.lay]; rfl
theorem Pk.l1 (h : Pk w0 p ao cap big uns v l w) : w.cell? ⟨w0.heap.size + 1, 1, none⟩ = some (.bool uns) := by rw [cell_of_row _ _ _ _ _ _ h.lay]; rfl
end
theorem Pk.new (w : World) (p : Pcm) (ao : Option Addr) (cap : Nat) (big uns : Bool) : Pk w p ao cap big uns (.slice none 0 0) [] ((w.alloc (.cells (pcmC p ao cap) 37)).alloc (.cells #[.bool big, .bool uns] 77)) := by
  refine ⟨?_, ?_, World.ownsRow_nil _ _ _ _, by simp, ((Below.refl w.heap.size w).alloc (Nat.le_refl _) _).alloc (by simp) _⟩
  · rw [Below.heap_alloc _ _ _ (by simp)]
    exact heap_alloc_new _ _
  · have h := heap_alloc_new (w.alloc (.cells (pcmC p ao cap) 37)) (.cells #[.bool big, .bool uns] 77)
    have e : (w.alloc (.cells (pcmC p ao cap) 37)).heap.size = w.heap.size + 1 := by simp
    rw [e] at h
    exact h

theorem strCells_textOf (l : List Nat) (h : ∀ b ∈ l, b < 256) : Lib.strCells (textOf l) = l.map fun (b : Nat) => Value.int .u8 (b : Int) := by
  unfold Lib.strCells textOf
  rw [List.map_map]
  apply List.map_congr_left
  intro b hb
  have := h b hb
  simp [UInt8.toNat_ofNat', Nat.mod_eq_of_lt this]

theorem conv_own {w : World} {base : Nat} {v : Value} {l : List Nat} (h : w.ownsRow base 5 1 v l.length (l.map fun (b : Nat) => Value.int .u8 (b : Int))) :
    (convert 62 9 v).run Tryz.prog w = .ok (.string (textOf l)) w := by
  have hc := h
  rcases h.2 with ⟨rfl, h0⟩ | ⟨g, c, cur, rfl, _, _, _, _, _, _⟩
  · rw [List.eq_nil_of_length_eq_zero h0]
    exact run_convert_bytes_nil w 62 5 Tryz.underlying62 Tryz.underlying5 0 0 9 Tryz.underlying9
  · rw [textOf_eq]
    refine run_convert_bytes_arg w 62 5 Tryz.underlying62 Tryz.underlying5 g 0 l.length c _ (by simp) (fun i hi => ?_) 9 Tryz.underlying9
    have := hc.cells (g := g) rfl i (.int .u8 (l[i] : Int)) (by rw [List.getElem?_map, List.getElem?_eq_getElem hi]; rfl)
    rw [Addr.add_mid] at this
    rw [this]
    simp [List.getD, hi]

/-- Pack's answer. -/
def packN (p : Pcm) (big uns : Bool) : ByteArray := if checkN p = 0 then textOf (packL p big uns (lenP p)) else ⟨#[]⟩

set_option maxRecDepth 20000 in
set_option maxHeartbeats 3200000 in
theorem rpack_no (p : Pcm) (ao : Option Addr) (cap : Nat) (big uns : Bool) (w : World) (hr : RowsAt w ao p.pl) (hc : ¬ checkN p = 0) :
    Calls Tryz.prog 77 #[pcmV p ao cap, .agg #[.bool big, .bool uns]] w fun e w' => e = .returned (.tuple #[.string ⟨#[]⟩, .int .i64 (checkN p)]) ∧ Below w.heap.size w w' := by
  have HP : Hid (Pk w p ao cap big uns (.slice none 0 0) [] ((w.alloc (.cells (pcmC p ao cap) 37)).alloc (.cells #[.bool big, .bool uns] 77))) := Pk.new w p ao cap big uns
  have HR : Hid (RowsAt w ao p.pl) := hr
  clear hr
  go_enter Tryz.func77, Tryz.ntmps77
  go_wp2_with fail
  generalize hwa : World.alloc _ _ = wa
  have HA : Hid (Pk w p ao cap big uns (.slice none 0 0) [] wa) := by
    rw [← hwa]
    exact HP.out
  clear hwa HP
  refine (rcheck_spec p ao cap wa (HR.out.below HA.out.below)).mono ?_
  rintro e w4 ⟨rfl, hB⟩
  have HB : Hid (Below w.heap.size w w4) := HA.out.below.trans (hB.mono HA.out.below.size)
  clear hB
  go_wp2
  go_ret2
  exact ⟨rfl, HB.out⟩

end Go.Proofs.YtfnkdahocehilaaGreat

namespace Go.Proofs.YtfnkdahocehilaaGreat
open Go.RowKit
set_option linter.unusedSimpArgs false
set_option linter.unusedVariables false

def oddC (c : Chk) : Bool := decide (c.body.size % 2 = 1)
def layOk (c : Chk) (last : Bool) : Bool := idB c.id && (decide ((if oddC c && last then -1 else 0) ≤ c.pad) && decide (c.pad ≤ if oddC c then 255 else 0))
def headC (c : Chk) (big : Bool) : ByteArray := c.id ++ toT (c.body.size : Int) big ++ c.body
def tailC (c : Chk) : List Nat := if oddC c = true ∧ 0 ≤ c.pad then [c.pad.toNat] else []
def layOne (c : Chk) (big : Bool) : List Nat := bytesOf (headC c big) ++ tailC c
def layL (l : List Chk) (big : Bool) : List Nat := l.flatMap fun c => layOne c big
def layAll : List Chk → Bool
  | [] => true
  | [c] => layOk c true
  | c :: d :: t => layOk c false && layAll (d :: t)
theorem layAll_iff : ∀ l : List Chk, layAll l = true ↔ ∀ (i : Nat) (c : Chk), l[i]? = some c → layOk c (decide (i + 1 = l.length)) = true
  | [] => ⟨fun _ i c h => by simp at h, fun _ => rfl⟩
  | [c] => by
    constructor
    · intro h i d hd
      cases i with
      | zero =>
        simp at hd
        subst hd
        exact h
      | succ i => simp at hd
    · intro h
      exact h 0 c rfl
  | c :: d :: t => by
    have ih := layAll_iff (d :: t)
    constructor
    · intro h i e he
      obtain ⟨h1, h2⟩ := Bool.and_eq_true_iff.1 (show (layOk c false && layAll (d :: t)) = true from h)
      cases i with
      | zero =>
        simp at he
        subst he
        rw [show decide (0 + 1 = (c :: d :: t).length) = false from decide_eq_false (by simp)]
        exact h1
      | succ i =>
        have := ih.1 h2 i e (by simpa using he)
        rw [show decide (i + 1 + 1 = (c :: d :: t).length) = decide (i + 1 = (d :: t).length) from by simp]
        exact this
    · intro h
      show (layOk c false && layAll (d :: t)) = true
      rw [Bool.and_eq_true_iff]
      refine ⟨?_, ih.2 fun i e he => ?_⟩
      · have := h 0 c rfl
        rwa [show decide (0 + 1 = (c :: d :: t).length) = false from decide_eq_false (by simp)] at this
      · have := h (i + 1) e (by simpa using he)
        rwa [show decide (i + 1 + 1 = (c :: d :: t).length) = decide (i + 1 = (d :: t).length) from by simp] at this
/-- Lay's error and text. -/
def layE (l : List Chk) : Int := if l.length ≤ 1024 ∧ layAll l = true then 0 else 60
def layT (l : List Chk) (big : Bool) : ByteArray := if l.length ≤ 1024 ∧ layAll l = true then textOf (layL l big) else ⟨#[]⟩
theorem lay_no (l : List Chk) (big : Bool) (i : Nat) (c : Chk) (hi : l[i]? = some c) (h : layOk c (decide (i + 1 = l.length)) = false) : layE l = 60 ∧ layT l big = ⟨#[]⟩ := by
  have hn : ¬ (l.length ≤ 1024 ∧ layAll l = true) := fun q => by
    rw [(layAll_iff l).1 q.2 i c hi] at h
    cases h
  unfold layE layT
  rw [if_neg hn, if_neg hn]
  exact ⟨rfl, rfl⟩
theorem lay_many (l : List Chk) (big : Bool) (h : ¬ l.length ≤ 1024) : layE l = 60 ∧ layT l big = ⟨#[]⟩ := by
  have hn : ¬ (l.length ≤ 1024 ∧ layAll l = true) := fun q => h q.1
  unfold layE layT
  rw [if_neg hn, if_neg hn]
  exact ⟨rfl, rfl⟩
theorem lay_yes (l : List Chk) (big : Bool) (hl : l.length ≤ 1024) (h : ∀ (i : Nat) (c : Chk), l[i]? = some c → layOk c (decide (i + 1 = l.length)) = true) : layE l = 0 ∧ layT l big = textOf (layL l big) := by
  have hn : l.length ≤ 1024 ∧ layAll l = true := ⟨hl, (layAll_iff l).2 h⟩
  unfold layE layT
  rw [if_pos hn, if_pos hn]
  exact ⟨rfl, rfl⟩
theorem layL_take (l : List Chk) (big : Bool) (i : Nat) (c : Chk) (h : l[i]? = some c) : layL (l.take (i + 1)) big = layL (l.take i) big ++ layOne c big := by
  obtain ⟨hi, rfl⟩ := List.getElem?_eq_some_iff.1 h
  unfold layL
  rw [List.take_succ_eq_append_getElem hi, List.flatMap_append]
  simp
theorem layL_pre (l : List Chk) (big : Bool) (i : Nat) : (layL (l.take i) big).length ≤ (layL l big).length := by
  have e : layL l big = layL (l.take i) big ++ layL (l.drop i) big := by
    unfold layL
    rw [← List.flatMap_append, List.take_append_drop]
  rw [e, List.length_append]
  omega
theorem layL_lt (l : List Chk) (big : Bool) (h : ∀ (i : Nat) (c : Chk), l[i]? = some c → layOk c (decide (i + 1 = l.length)) = true) : ∀ b ∈ layL l big, b < 256 := by
  intro b hb
  unfold layL at hb
  obtain ⟨c, hc, hb⟩ := List.mem_flatMap.1 hb
  obtain ⟨i, hi⟩ := List.mem_iff_getElem?.1 hc
  rcases List.mem_append.1 hb with hb | hb
  · exact bytesOf_lt _ b hb
  · unfold tailC at hb
    split at hb
    · rename_i hq
      have hk := h i c hi
      unfold layOk at hk
      obtain ⟨_, hk⟩ := Bool.and_eq_true_iff.1 hk
      obtain ⟨_, hk⟩ := Bool.and_eq_true_iff.1 hk
      rw [hq.1, if_pos rfl] at hk
      have := of_decide_eq_true hk
      rw [List.mem_singleton] at hb
      omega
    · cases hb
/-- Bytes that a call owns and that grow. -/
structure Gb (w0 : World) (v : Value) (l : List Nat) (w : World) : Prop where
  own : w.ownsRow w0.heap.size 5 1 v l.length (l.map fun (b : Nat) => Value.int .u8 (b : Int))
  below : Below w0.heap.size w0 w
section
variable {w0 w w' : World} {v v' : Value} {l l' : List Nat}
theorem Gb.next (h : Gb w0 v l w) (hB : Below w.heap.size w w') : Gb w0 v l w' := ⟨owns_below h.own hB, h.below.trans (hB.mono h.below.size)⟩
theorem Gb.app (h : Gb w0 v l w) (hg : w.grownBy w' v.ownBlock) (ho : w'.ownsRow w0.heap.size 5 1 v' l'.length (l'.map fun (b : Nat) => Value.int .u8 (b : Int))) : Gb w0 v' l' w' :=
  ⟨ho, grown_to hg h.below h.below.size (fun k e => (h.own.lt k e).1)⟩
theorem Gb.shape (h : Gb w0 v l w) : ∃ va vc, v = .slice va l.length vc := by
  rcases h.own.2 with ⟨e, e0⟩ | ⟨g, cap, cur, e, _⟩
  · exact ⟨_, _, by rw [e, e0]⟩
  · exact ⟨_, _, e⟩
end
theorem strCells_bytes (s : ByteArray) : Lib.strCells s = (bytesOf s).map fun (b : Nat) => Value.int .u8 (b : Int) := by
  unfold Lib.strCells bytesOf
  rw [List.map_map]
  rfl
/-- Append of a text to bytes that the call owns, in a region that draws. -/
theorem step_append_str {P : Program} (w : World) {ops : Array Oper} {o : Oper} {a : Act} {K : Act → World → Prop} {Q : Exit → Act → World → Prop} {E : Prop} (hgd : o.guard = none) (sl x : Operand) (t u : TypeId)
    (ho : o.op = .call { callee := .builtin .append, args := #[sl, x], argTypes := #[t, u] }) (w0 : World) (i : TypeInfo) (ht : P.underlying t = some (.slice 5)) (hu : P.underlying u = some .string) (hi : P.info? 5 = some i) (hz : i.zero = some (.int .u8 0))
    (hsize : i.size = 1) (hby : i.bytes = 1) (v : Value) (l : List Nat) (hs : a.eval sl = v) (hown : Gb w0 v l w) (s : ByteArray) (hx : a.eval x = .string s)
    (hbytes : l.length + s.size ≤ 140737488355328)
    (h : ∀ v' w', Hid (Gb w0 v' (l ++ bytesOf s) w') → K (a.put o.dst v') w') : if Region.wanted o (yielded ops a.tmps) = true then Oper.wp P o a w K Q else E := by
  have hw : Region.wanted o (yielded ops a.tmps) = true := by simp [Region.wanted, hgd]
  rw [if_pos hw]
  obtain ⟨v', w', hr, h2, h3, h4⟩ := Lib.run_append_own_string (P := P) w w0.heap.size t u o.type 5 i ht hu hi hz hsize hby v l.length _ hown.own s (by simp only [maxLen]; omega) hbytes hown.below.size
  unfold Oper.wp execOp
  simp only [ho, resolve, invoke, builtin, Sem.run_bind, Sem.run_pure, Result.andThen_ok, List.map_toArray, List.map_cons, List.map_nil, hs, hx, hr]
  refine h v' w' (hown.app h3 ?_)
  rw [List.length_append, bytesOf_length, List.map_append, ← strCells_bytes]
  exact h2

end Go.Proofs.YtfnkdahocehilaaGreat
