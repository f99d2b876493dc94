/- Own text: the program's Unpack: its answers, its boxes. what Unpack's closure does, sample by sample. -/
import Derived.Test.YtfnkdahocehilaaGreatG34x
import Derived.Test.YtfnkdahocehilaaGreatG6x
namespace Go.Proofs.YtfnkdahocehilaaGreat
open Go.RowKit
set_option linter.unusedSimpArgs false
set_option linter.unusedVariables false

theorem res_two {fn : Func} {p t : Tmp} {ty : TypeId} (h : fn.results = #[.cell p ty, .tmp t]) (tmps : Array Value) (P : Program) (w : World) :
    (results fn tmps).run P w = ((asAddr (tmps.getD p undef)).run P w).andThen fun a w₁ => ((loadVar ty a).run P w₁).andThen fun x w₂ => .ok (.tuple #[x, tmps.getD t undef]) w₂ := by
  simp only [results, h]
  simp [Sem.run_bind, Result.andThen]
theorem blk_set (w : World) (p i : Nat) (cs : Array Value) (t : TypeId) (u : Value) (h : w.heap[p]? = some (.cells cs t (0, 0))) :
    (w.setCell ⟨p, i, none⟩ u).heap[p]? = some (.cells (cs.setIfInBounds i u) t (0, 0)) := by
  simp only [World.setCell, Array.getElem?_modify, h]
  simp
theorem infPcm : (Tryz.prog.info? 37).map (·.size) = some 4 := by kernel_rfl
abbrev zeroC : Array Value := #[.int .i64 0, .int .i64 0, .int .i64 0, .slice none 0 0]

/-- The i-th number of a text. -/
def numM (s : ByteArray) (wd : Int) (big uns : Bool) (i : Nat) : Int := decM wd uns (rawN (s.extract (i * nby wd) (i * nby wd + nby wd)) big)
/-- The list of lists that a function of two places is. -/
def matL (c n : Nat) (f : Nat → Nat → Int) : List (List Int) := (List.range c).map fun k => (List.range n).map (f k)
theorem matL_length (c n : Nat) (f : Nat → Nat → Int) : (matL c n f).length = c := by simp [matL]
theorem matL_at (c n : Nat) (f : Nat → Nat → Int) (k : Nat) (hk : k < c) : (matL c n f).getD k [] = (List.range n).map (f k) := by
  simp [matL, List.getD, hk]
theorem mat_rows {B c n : Nat} {f : Nat → Nat → Int} {w : World} (h : Mat B c n f w) (hc : c ≤ 8) (hn : n ≤ 1048576) (hf : ∀ k i, k < c → i < n → -9223372036854775808 ≤ f k i ∧ f k i ≤ 9223372036854775807) :
    RowsAt w (some ⟨B, 0, none⟩) (matL c n f) ∧ Fresh B w (some ⟨B, 0, none⟩) (matL c n f) := by
  have hlen := matL_length c n f
  have hcell : ∀ k, k < c → w.cell? ⟨B, k, none⟩ = some (.slice (some ⟨B + 1 + k, 0, none⟩) n n) := fun k hk => h.outer.cell hk
  refine ⟨⟨by omega, fun h0 => ⟨B, 0, rfl, fun i hi => ?_⟩⟩, ⟨fun b off e h0 => ?_, fun b off e i hi a m cc hcc ba oa ha => ?_⟩⟩
  · rw [hlen] at hi
    rw [matL_at c n f i hi, List.length_map, List.length_range]
    refine ⟨some ⟨B + 1 + i, 0, none⟩, n, ?_, Nat.le_refl _, fun e => (by cases e), ⟨?_, ?_, fun h0 => ⟨B + 1 + i, 0, rfl, fun j hj => ?_⟩⟩⟩
    · rw [Nat.zero_add]
      exact hcell i hi
    · rw [List.length_map, List.length_range]
      omega
    · intro x hx
      obtain ⟨j, hj, rfl⟩ := List.mem_map.1 hx
      exact hf i j hi (List.mem_range.1 hj)
    · rw [List.length_map, List.length_range] at hj
      rw [Nat.zero_add, (h.inner i hi).cell hj]
      simp [List.getD, hj]
  · injection e with e
    injection e with e1 e2
    omega
  · injection e with e
    injection e with e1 e2
    rw [hlen] at hi
    subst e1
    subst e2
    rw [Nat.zero_add, hcell i hi] at hcc
    injection hcc with hcc
    injection hcc with x1 x2 x3
    rw [ha] at x1
    injection x1 with x1
    injection x1 with y1 y2
    subst y1
    exact ⟨by omega, fun j => (h.inner i hi).frozen j⟩

theorem rows0 (w : World) (ao : Option Addr) : RowsAt w ao (⟨0, 0, 0, []⟩ : Pcm).pl := ⟨by simp, fun h => absurd h (by simp)⟩
theorem fresh0 (B : Nat) (w : World) (ao : Option Addr) : Fresh B w ao (⟨0, 0, 0, []⟩ : Pcm).pl := ⟨fun _ _ _ h => absurd h (by simp), fun _ _ _ i hi => absurd hi (by simp)⟩

/-- Unpack's error, and its samples. -/
def uE (s : ByteArray) (rate ch wd : Int) (big uns : Bool) : Int :=
  if mayB rate ch wd then (if s.size % (nby wd * ch.toNat) = 0 then (if 1048576 < s.size / (nby wd * ch.toNat) then 5 else
    (if ∀ i, i < s.size / nby wd → sampB (numM s wd big uns i) wd = true then 0 else 2)) else 2) else 50
def uL (s : ByteArray) (wd : Int) (big uns : Bool) (c n : Nat) : List (List Int) := matL c n fun k i => numM s wd big uns (i * c + k)
def uP (s : ByteArray) (rate ch wd : Int) (big uns : Bool) : Pcm := if uE s rate ch wd big uns = 0 then ⟨rate, ch, wd, uL s wd big uns ch.toNat (s.size / (nby wd * ch.toNat))⟩ else ⟨0, 0, 0, []⟩
def GivesU (w : World) (q : Pcm) (n : Int) (e : Ending) (w' : World) : Prop := ∃ ao' cap', e = .returned (.tuple #[pcmV q ao' cap', .int .i64 n]) ∧ RowsAt w' ao' q.pl ∧ Fresh w.heap.size w' ao' q.pl ∧ Below w.heap.size w w'

structure Ub (w0 : World) (s : ByteArray) (wd : Int) (big uns : Bool) (w : World) : Prop where
  sb : w.heap[w0.heap.size]? = some (.cells #[.string s] 9 (0, 0))
  wb : w.heap[w0.heap.size + 1]? = some (.cells #[.int .i64 wd] 3 (0, 0))
  lb : w.heap[w0.heap.size + 2]? = some (.cells #[.bool big, .bool uns] 77 (0, 0))
  res : w.heap[w0.heap.size + 3]? = some (.cells zeroC 37 (0, 0))
  below : Below w0.heap.size w0 w
theorem Ub.new (w : World) (s : ByteArray) (wd : Int) (big uns : Bool) : Ub w s wd big uns ((((w.alloc (.cells #[.string s] 9)).alloc (.cells #[.int .i64 wd] 3)).alloc (.cells #[.bool big, .bool uns] 77)).alloc (.cells zeroC 37)) := by
  have h : ∀ (w : World) (o : Obj), Below w.heap.size w (w.alloc o) := fun w o => (Below.refl _ _).alloc (Nat.le_refl _) _
  have s1 : (w.alloc (.cells #[.string s] 9)).heap.size = w.heap.size + 1 := by simp
  have s2 : ((w.alloc (.cells #[.string s] 9)).alloc (.cells #[.int .i64 wd] 3)).heap.size = w.heap.size + 2 := by simp
  have s3 : (((w.alloc (.cells #[.string s] 9)).alloc (.cells #[.int .i64 wd] 3)).alloc (.cells #[.bool big, .bool uns] 77)).heap.size = w.heap.size + 3 := by simp
  refine ⟨?_, ?_, ?_, ?_, (((h w _).alloc (by simp) _).alloc (by simp <;> omega) _).alloc (by simp <;> omega) _⟩
  · rw [(h _ _).block _ (by simp <;> omega), (h _ _).block _ (by simp <;> omega), (h _ _).block _ (by simp)]
    exact heap_alloc_new _ _
  · rw [(h _ _).block _ (by simp <;> omega), (h _ _).block _ (by simp), ← s1]
    exact heap_alloc_new _ _
  · rw [(h _ _).block _ (by simp), ← s2]
    exact heap_alloc_new _ _
  · rw [← s3]
    exact heap_alloc_new _ _
theorem Ub.next {w0 w w' : World} {s : ByteArray} {wd : Int} {big uns : Bool} (h : Ub w0 s wd big uns w) (hB : Below w.heap.size w w') : Ub w0 s wd big uns w' :=
  ⟨by rw [hB.block _ (lt_of_block h.sb)]; exact h.sb, by rw [hB.block _ (lt_of_block h.wb)]; exact h.wb, by rw [hB.block _ (lt_of_block h.lb)]; exact h.lb, by rw [hB.block _ (lt_of_block h.res)]; exact h.res, h.below.trans (hB.mono h.below.size)⟩

set_option maxRecDepth 20000 in
set_option maxHeartbeats 3200000 in
theorem unpack_head (s : ByteArray) (rate ch wd : Int) (big uns : Bool) (w : World) (hh : mayB rate ch wd = false) :
    Calls Tryz.prog 90 #[.string s, .int .i64 rate, .int .i64 ch, .int .i64 wd, .agg #[.bool big, .bool uns]] w fun e w' => GivesU w (uP s rate ch wd big uns) (uE s rate ch wd big uns) e w' := by
  have HN : Hid (uE s rate ch wd big uns = 50) := by
    show _ = _
    unfold uE
    rw [hh]
    rfl
  have HP : Hid (uP s rate ch wd big uns = ⟨0, 0, 0, []⟩) := by
    show _ = _
    unfold uP
    rw [HN.out]
    rfl
  have HU := Ub.new w s wd big uns
  have d1 : ((((w.alloc (.cells #[.string s] 9)).alloc (.cells #[.int .i64 wd] 3)).alloc (.cells #[.bool big, .bool uns] 77)).alloc (.cells zeroC 37)).cell? ⟨w.heap.size + 1, 0, none⟩ = some (.int .i64 wd) := by rw [cell_of_row _ _ _ _ _ _ HU.wb]; rfl
  have HUH : Hid (Ub w s wd big uns ((((w.alloc (.cells #[.string s] 9)).alloc (.cells #[.int .i64 wd] 3)).alloc (.cells #[.bool big, .bool uns] 77)).alloc (.cells zeroC 37))) := HU
  have km := mayBe_spec rate ch wd
  rw [hh] at km
  clear hh HU
  go_enter Tryz.func90, Tryz.ntmps90
  go_wp2_with fail
  refine (km _).mono ?_
  rintro e w2 ⟨rfl, rfl⟩
  go_wp2_with fail
  generalize hwf : World.alloc _ _ = wf
  have hu : Ub w s wd big uns wf := by
    rw [← hwf]
    exact HUH.out
  refine bodyPost_ret (v := .tuple #[.agg zeroC, .int .i64 50]) ?_ rfl ⟨none, 0, by rw [HP.out, HN.out]; rfl, by rw [HP.out]; exact rows0 _ _, by rw [HP.out]; exact fresh0 _ _ _, hu.below⟩
  rw [res_two rfl]
  have hld := run_loadVar_row (P := Tryz.prog) wf (w.heap.size + 1 + 1 + 1) 37 37 zeroC (0, 0) _ hu.res Tryz.underlying37 rfl infPcm
  simp [asAddr, Result.andThen, hld]

end Go.Proofs.YtfnkdahocehilaaGreat

namespace Go.Proofs.YtfnkdahocehilaaGreat
open Go.RowKit
set_option linter.unusedSimpArgs false
set_option linter.unusedVariables false

theorem ext_low (s : ByteArray) (a k : Nat) (h : a + k ≤ s.size) : (s.extract a s.size).extract 0 k = s.extract a (a + k) := by
  rw [ByteArray.extract_extract, Nat.add_zero, Nat.min_eq_left h]
theorem ext_high (s : ByteArray) (a k : Nat) (h : a + k ≤ s.size) : (s.extract a s.size).extract k (s.extract a s.size).size = s.extract (a + k) s.size := by
  rw [ByteArray.size_extract, ByteArray.extract_extract]
  congr 1
  omega
theorem Uc.drewN {w0 w : World} {C : Nat} {wd : Int} {big uns : Bool} {r : ByteArray} (h : Uc w0 C wd big uns r w) (q : Nat) : Uc w0 C wd big uns r (w.drewN q) :=
  ⟨h.sb, h.wb, h.res, h.cb, h.lt, ⟨h.below.os, h.below.tape, h.below.output, h.below.size, h.below.block⟩⟩
theorem decM_range (wd : Int) (uns : Bool) (m : Nat) (h4 : 4 ≤ wd) (h32 : wd ≤ 32) (hm : m < 4294967296) : -9223372036854775808 ≤ decM wd uns m ∧ decM wd uns m ≤ 9223372036854775807 := by
  have h1 := pow33 (wd - 1).toNat (by omega)
  have hn := nby_range wd h4 h32
  have h2 := pow33 (8 * nby wd) (by omega)
  unfold decM
  split
  · omega
  · split <;> omega
theorem numM_range (s : ByteArray) (wd : Int) (big uns : Bool) (i : Nat) (h4 : 4 ≤ wd) (h32 : wd ≤ 32) : -9223372036854775808 ≤ numM s wd big uns i ∧ numM s wd big uns i ≤ 9223372036854775807 := by
  apply decM_range wd uns _ h4 h32
  have hn := nby_range wd h4 h32
  have hsz : (s.extract (i * nby wd) (i * nby wd + nby wd)).size ≤ 4 := by rw [ByteArray.size_extract]; omega
  have hp : ∀ k, k ≤ 4 → 256 ^ k ≤ 4294967296 := fun k hk => Nat.le_trans (Nat.pow_le_pow_right (by decide) hk) (by decide)
  unfold rawN
  split
  · exact Nat.lt_of_lt_of_le (val_lt _ (bytesOf_lt _)) (hp _ (by rw [bytesOf_length]; exact hsz))
  · exact Nat.lt_of_lt_of_le (val_lt _ (fun x hx => bytesOf_lt _ x (List.mem_reverse.1 hx))) (hp _ (by rw [List.length_reverse, bytesOf_length]; exact hsz))

/-- What Unpack's planes are behind t samples. -/
def soM (s : ByteArray) (wd : Int) (big uns : Bool) (c t : Nat) : Nat → Nat → Int := fun k i => if i * c + k < t then numM s wd big uns (i * c + k) else 0

set_option maxHeartbeats 1600000 in
theorem unpackTurn (w0 : World) (C B : Nat) (hCB : C < B) (s : ByteArray) (wd : Int) (big uns : Bool) (h4 : 4 ≤ wd) (h32 : wd ≤ 32) (c n : Nat) (hsz : n * c * nby wd = s.size) :
    Turn B 0 n c (fun k => some ⟨B + 1 + k, 0, none⟩) (fun _ => n) 112 #[.pointer (some ⟨C, 0, none⟩), .pointer (some ⟨w0.heap.size, 0, none⟩), .pointer (some ⟨w0.heap.size + 1, 0, none⟩)]
      (fun t wx => t ≤ n * c ∧ Mat B c n (soM s wd big uns c t) wx ∧ Uc w0 C wd big uns (s.extract (t * nby wd) s.size) wx ∧ ∀ j, j < t → sampB (numM s wd big uns j) wd = true)
      (fun wx => (∃ j, j < n * c ∧ sampB (numM s wd big uns j) wd = false) ∧ ∃ r, Uc w0 C wd big uns r wx) := by
  refine ⟨fun t wx hI k hk => by rw [Nat.zero_add]; exact hI.2.1.outer.cell hk, fun h0 k hk => ⟨_, _, rfl⟩, fun i k wx hi hk hI b' o' he => ?_⟩
  have e' : B + 1 + k = b' ∧ 0 = o' := by
    injection he with he
    injection he with e1 e2
    exact ⟨e1, e2⟩
  obtain ⟨rfl, rfl⟩ := e'
  obtain ⟨htn, hM, hU, hok⟩ := hI
  have hlt : i * c + k < n * c := by
    have : i * c + k < (i + 1) * c := by rw [Nat.succ_mul]; omega
    exact Nat.lt_of_lt_of_le this (Nat.mul_le_mul_right _ hi)
  have hfit : (i * c + k) * nby wd + nby wd ≤ s.size := by
    rw [← Nat.succ_mul, ← hsz]
    exact Nat.mul_le_mul_right _ hlt
  have hold : wx.cell? ⟨B + 1 + k, 0 + i, none⟩ = some (.int .i64 0) := by
    rw [Nat.zero_add, (hM.inner k hk).cell hi]
    unfold soM
    rw [if_neg (Nat.lt_irrefl _)]
  have hfz : wx.frozen? ⟨B + 1 + k, 0 + i, none⟩ = false := (hM.inner k hk).frozen _
  refine (unpackC_spec w0 wx C wd big uns _ (B + 1 + k) (0 + i) 0 h4 h32 (by rw [ByteArray.size_extract]; omega) hU (by omega) hold hfz).mono ?_
  rintro e w' ⟨rfl, w1, q, hB, rfl⟩
  rw [ext_low s _ _ hfit, ext_high s _ _ hfit, ← Nat.succ_mul, Nat.zero_add]
  have hx : decM wd uns (rawN (s.extract ((i * c + k) * nby wd) ((i * c + k) * nby wd + nby wd)) big) = numM s wd big uns (i * c + k) := rfl
  rw [← Nat.succ_mul] at hx
  rw [hx]
  have hU2 := (((hU.next hB).set ⟨B + 1 + k, i, none⟩ (.int .i64 (numM s wd big uns (i * c + k))) (by simp; omega)).text (s.extract ((i * c + k).succ * nby wd) s.size)).drewN q
  have hlC := hU.lt
  cases hsb : sampB (numM s wd big uns (i * c + k)) wd with
  | false => exact Or.inr ⟨rfl, ⟨_, hlt, hsb⟩, _, hU2⟩
  | true =>
    refine Or.inl ⟨rfl, hlt, ⟨?_, fun l hl => ?_⟩, hU2, fun j hj => ?_⟩
    · have h1 := hM.outer.of_block (hB.block _ hM.outer.lt)
      exact ((h1.setOther (show B ≠ B + 1 + k by omega) _).setOther (show B ≠ w0.heap.size by omega) _).of_block rfl
    · have h1 := (hM.inner l hl).of_block (hB.block _ (hM.inner l hl).lt)
      by_cases e : l = k
      · subst e
        refine (((h1.set i _).setOther (show B + 1 + l ≠ w0.heap.size by omega) _).of_block rfl : World.rowIs _ _ _ _ _).congr fun j hj => ?_
        unfold soM
        by_cases ej : j = i
        · rw [if_pos ej, ej, if_pos (Nat.lt_succ_self _)]
        · rw [if_neg ej]
          by_cases hjt : j * c + l < i * c + l
          · rw [if_pos hjt, if_pos (by omega)]
          · rw [if_neg hjt, if_neg (fun h => hjt (split_t c i l j l hk hl h (fun q => ej q.1)))]
      · refine (((h1.setOther (show B + 1 + l ≠ B + 1 + k by omega) _).setOther (show B + 1 + l ≠ w0.heap.size by omega) _).of_block rfl : World.rowIs _ _ _ _ _).congr fun j hj => ?_
        unfold soM
        by_cases hjt : j * c + l < i * c + k
        · rw [if_pos hjt, if_pos (by omega)]
        · rw [if_neg hjt, if_neg (fun h => hjt (split_t c i k j l hk hl h (fun q => e q.2)))]
    · by_cases ej : j = i * c + k
      · rw [ej]
        exact hsb
      · exact hok j (by omega)

end Go.Proofs.YtfnkdahocehilaaGreat
