/- Own text: a list of chunks that came in as an argument, opened. a skeleton that came in as an argument, opened; what the bulk's bound gives. -/
import Derived.Test.YtaepgjheknkojaaGreatG40x
import Derived.Test.YtaepgjheknkojaaGreatG23x
import Derived.Test.YtaepgjheknkojaaGreatR6lay2
import Derived.Deep.Slices
import Derived.Deep.Strs
import Derived.Test.YtaepgjheknkojaaGreatP7doc
import Derived.Test.YtaepgjheknkojaaGreatQ7build
namespace Go.Proofs.YtaepgjheknkojaaGreat
open Go.ChangeShapes Go.WideShapes Go.ChangeAt Go.RowKit Go.Deep Go.Joins
set_option linter.unusedSimpArgs false
set_option linter.unusedVariables false

theorem acellsC : Tryz.prog.cellsOf 55 = 3 := by kernel_rfl
theorem acells9 : Tryz.prog.cellsOf 9 = 1 := by kernel_rfl
/-- A chunk as it reads. -/
def chkD {H : Type} (c : Chk) : DataW H := .agg [.lit (.string c.id.data.toList), .lit (.string c.body.data.toList), .lit (.int .i64 c.pad)]
/-- How much a list of chunks holds. -/
def bulkL (l : List Chk) : Nat := (l.map fun c => c.id.size + c.body.size + 4).sum
theorem bulk_chk {H : Type} (c : Chk) : Rows.uptoBulk (chkD (H := H) c) = c.id.size + c.body.size + 4 := by
 have e1 : c.id.data.toList.length = c.id.size := by rw [Array.length_toList]; rfl
 have e2 : c.body.data.toList.length = c.body.size := by rw [Array.length_toList]; rfl
 unfold chkD
 simp only [Rows.uptoBulk, Rows.uptoBulkAll, e1, e2]
 omega
theorem bulk_all {H : Type} : ∀ l : List Chk, Rows.uptoBulkAll (l.map (chkD (H := H))) = bulkL l
 | [] => rfl
 | c :: t => by
  have ih := bulk_all (H := H) t
  have e : Rows.uptoBulkAll ((c :: t).map (chkD (H := H))) = Rows.uptoBulk (chkD (H := H) c) + Rows.uptoBulkAll (t.map (chkD (H := H))) := by
   rw [List.map_cons]
   simp only [Rows.uptoBulkAll]
  have e2 : bulkL (c :: t) = (c.id.size + c.body.size + 4) + bulkL t := by unfold bulkL; simp
  rw [e, ih, bulk_chk, e2]

set_option maxRecDepth 20000 in
/-- A chunk's three cells, opened. -/
theorem open_chunk_cells {H : Type} {enc : TypeId × Value → H} {w : World} {base : Nat} {held : Bool} {fuel : Nat} {cs : List Value} {x : DataW H × List MemPlace} (h : DataW.trod enc Tryz.prog w base (fun _ => true) held fuel 55 cs = some x) :
  ∃ c : Chk, cs = [.string c.id, .string c.body, .int .i64 c.pad] ∧ x.1 = chkD c ∧ -9223372036854775808 ≤ c.pad ∧ c.pad ≤ 9223372036854775807 := by
 obtain ⟨y0, y1, y2, m, rfl, hl, h0, h1, h2⟩ := trod_struct3 Tryz.underlying55 h
 rw [acellsC] at hl
 obtain ⟨s0, e0, f0, _⟩ := DataW.trod_string Tryz.underlying9 h0
 obtain ⟨s1, e1, f1, _⟩ := DataW.trod_string Tryz.underlying9 h1
 obtain ⟨z2, e2, f2, q2⟩ := DataW.trod_int Tryz.underlying3 h2
 match cs, hl with
 | [c0, c1, c2], _ =>
  simp [acells9] at e0 e1
  simp [acells3] at e2
  subst e0 e1 e2
  refine ⟨⟨s0, s1, z2⟩, rfl, ?_, (bounds_i64 q2).1, (bounds_i64 q2).2⟩
  rw [f0, f1, f2]
  rfl

theorem open_chunks {H : Type} {enc : TypeId × Value → H} {w : World} {held : Bool} {ao : Option Addr} {len cap : Nat} {d : DataW H} {q : List MemPlace}
  (h : DataW.Trod enc Tryz.prog w 0 (fun _ => true) held 25 (.slice ao len cap) d q) (hb : Rows.uptoBulk d ≤ 1048576) : ∃ l : List Chk, len = l.length ∧ ChksAt w ao l ∧ (ao = none → cap = 0) ∧ (∀ c ∈ l, -9223372036854775808 ≤ c.pad ∧ c.pad ≤ 9223372036854775807) ∧ bulkL l ≤ 1048576 := by
 obtain ⟨fuel, hf⟩ := h
 rcases open_slice Tryz.underlying25 hf with ⟨hcs, _⟩ | ⟨a, len', cap', m, n, D, Pl, hcs, _, hl, hm, hmm, hd, hx⟩
 ·simp [Value.cells] at hcs
  obtain ⟨rfl, rfl, rfl⟩ := hcs
  exact ⟨[], rfl, ChksAt.nil _ _, fun _ => rfl, fun c hc => (by cases hc), Nat.zero_le _⟩
 ·simp [Value.cells] at hcs
  obtain ⟨rfl, rfl, rfl⟩ := hcs
  simp only [if_true] at hmm
  subst hmm
  rw [acellsC] at hx
  have hd1 : d = DataW.slice (List.map D (List.range len)) (List.map (fun j => D (len + j)) (List.range (m - len))) := congrArg Prod.fst hd
  have hall : ∀ i, i < len → ∃ q : ByteArray × ByteArray × Int, ∃ c : Chk, c = ⟨q.1, q.2.1, q.2.2⟩ ∧ w.cell? (a.add (i * 3)) = some (.string c.id) ∧ w.cell? (a.add (i * 3 + 1)) = some (.string c.body) ∧ w.cell? (a.add (i * 3 + 2)) = some (.int .i64 c.pad) ∧ D i = chkD c ∧ -9223372036854775808 ≤ c.pad ∧ c.pad ≤ 9223372036854775807 := by
   intro i hi
   obtain ⟨cs', h1, h2⟩ := hx i (by omega)
   obtain ⟨c, hcs, hD, hp1, hp2⟩ := open_chunk_cells h2
   obtain ⟨_, hlen, hcell⟩ := World.cells?_some h1
   have g0 := hcell 0 (by omega)
   have g1 := hcell 1 (by omega)
   have g2 := hcell 2 (by omega)
   rw [add_add] at g0 g1 g2
   subst hcs
   exact ⟨(c.id, c.body, c.pad), c, rfl, g0, g1, g2, hD, hp1, hp2⟩
  obtain ⟨f0, hf'⟩ := choose_lt (α := ByteArray × ByteArray × Int) hall
  obtain ⟨f, hfd⟩ : ∃ f : Nat → Chk, f = fun i => ⟨(f0 i).1, (f0 i).2.1, (f0 i).2.2⟩ := ⟨_, rfl⟩
  have hg : ∀ i, i < len → w.cell? (a.add (i * 3)) = some (.string (f i).id) ∧ w.cell? (a.add (i * 3 + 1)) = some (.string (f i).body) ∧ w.cell? (a.add (i * 3 + 2)) = some (.int .i64 (f i).pad) ∧ D i = chkD (f i) ∧ -9223372036854775808 ≤ (f i).pad ∧ (f i).pad ≤ 9223372036854775807 := fun i hi => by
   obtain ⟨c, hc, r⟩ := hf' i hi
   have : c = f i := by rw [hfd]; exact hc
   rw [this] at r
   exact r
  have hlen : ((List.range len).map f).length = len := by simp
  have hget : ∀ i c, ((List.range len).map f)[i]? = some c → i < len ∧ f i = c := fun i c hc => by
   have hi : i < len := by
    have := (List.getElem?_eq_some_iff.1 hc).1
    rwa [hlen] at this
   refine ⟨hi, ?_⟩
   simp [hi] at hc
   exact hc
  refine ⟨(List.range len).map f, hlen.symm, ⟨fun h0 => ?_⟩, fun e => (by cases e), fun c hc => ?_, ?_⟩
  ·rw [hlen] at h0
   have g0 := (hg 0 h0).1
   rw [Nat.zero_mul] at g0
   obtain ⟨b, off, rfl⟩ := at_spot g0
   refine ⟨b, off, rfl, fun i c hc => ?_⟩
   obtain ⟨hi, rfl⟩ := hget i c hc
   obtain ⟨q0, q1, q2, _⟩ := hg i hi
   rw [add_plain] at q0 q1 q2
   rw [Nat.add_assoc, Nat.add_assoc]
   exact ⟨q0, q1, q2⟩
  ·obtain ⟨i, hi, rfl⟩ := List.mem_map.1 hc
   exact (hg i (List.mem_range.1 hi)).2.2.2.2
  ·have e : List.map D (List.range len) = ((List.range len).map f).map (chkD (H := H)) := by
    rw [List.map_map]
    exact List.map_congr_left fun i hi => (hg i (List.mem_range.1 hi)).2.2.2.1
   rw [hd1, e] at hb
   have := bulk_all (H := H) ((List.range len).map f)
   simp only [Rows.uptoBulk] at hb
   omega
/-- What the bound gives. -/
theorem bulk_mem : ∀ (l : List Chk) (c : Chk), c ∈ l → c.id.size + c.body.size + 4 ≤ bulkL l
 | [], c, h => by cases h
 | d :: t, c, h => by
  have e2 : bulkL (d :: t) = (d.id.size + d.body.size + 4) + bulkL t := by unfold bulkL; simp
  rw [e2]
  rcases List.mem_cons.1 h with rfl | h
  ·omega
  ·have := bulk_mem t c h
   omega
theorem bulk_len (l : List Chk) : l.length ≤ bulkL l := by
 induction l with
 | nil => exact Nat.zero_le _
 | cons d t ih =>
  have e2 : bulkL (d :: t) = (d.id.size + d.body.size + 4) + bulkL t := by unfold bulkL; simp
  rw [e2, List.length_cons]
  omega
theorem bulk_size (l : List Chk) : sizeL l ≤ 3 * bulkL l := by
 induction l with
 | nil => exact Nat.zero_le _
 | cons d t ih =>
  have e2 : bulkL (d :: t) = (d.id.size + d.body.size + 4) + bulkL t := by unfold bulkL; simp
  have e : sizeL (d :: t) = sizeC d + sizeL t := by unfold sizeL; simp
  have : sizeC d ≤ 9 + d.body.size := by unfold sizeC; split <;> omega
  rw [e2, e]
  omega
theorem bulk_lay (l : List Chk) (big : Bool) : (layL l big).length ≤ 2 * bulkL l := by
 induction l with
 | nil => exact Nat.zero_le _
 | cons d t ih =>
  have e2 : bulkL (d :: t) = (d.id.size + d.body.size + 4) + bulkL t := by unfold bulkL; simp
  have e1 : layL (d :: t) big = layOne d big ++ layL t big := by unfold layL; rw [List.flatMap_cons]
  have h1 : (layOne d big).length ≤ d.id.size + 4 + d.body.size + 1 := by
   unfold layOne headC
   rw [List.length_append, bytesOf_length, ByteArray.size_append, ByteArray.size_append]
   have h2 := toT_four (d.body.size : Int) big
   have h3 : (tailC d).length ≤ 1 := by unfold tailC; split <;> simp
   omega
  rw [e1, e2, List.length_append]
  omega
theorem bulk_fair (l : List Chk) (h : bulkL l ≤ 1048576) : FairL l := fun c hc => by
 have := bulk_mem l c hc
 exact ⟨by omega, by omega⟩
theorem bulk_fairC (l : List Chk) (h : bulkL l ≤ 1048576) (hp : ∀ c ∈ l, -9223372036854775808 ≤ c.pad ∧ c.pad ≤ 9223372036854775807) : ∀ (i : Nat) (c : Chk), l[i]? = some c → FairC c := fun i c hi => by
 have hc := List.mem_of_getElem? hi
 have := bulk_mem l c hc
 exact ⟨by omega, by omega, (hp c hc).1, (hp c hc).2⟩

end Go.Proofs.YtaepgjheknkojaaGreat

namespace Go.Proofs.YtaepgjheknkojaaGreat
open Go.ChangeShapes Go.WideShapes Go.ChangeAt Go.RowKit Go.Deep Go.Joins
set_option linter.unusedSimpArgs false
set_option linter.unusedVariables false

theorem acellsS : Tryz.prog.cellsOf 25 = 1 := by kernel_rfl
set_option maxRecDepth 20000 in
/-- A skeleton that came in as an argument, opened. -/
theorem open_aiff {H : Type} {enc : TypeId × Value → H} {w : World} {r : Reach} {base2 : Nat} {held : Bool} {v : Value} {d : DataW H} {q : List MemPlace} (hv : Value.okWide Tryz.prog w r base2 27 v) (h : DataW.Trod enc Tryz.prog w 0 (fun _ => true) held 27 v d q) (hb : Rows.uptoBulk d ≤ 1048576) :
  ∃ (f : ByteArray) (l : List Chk) (ao : Option Addr) (cap : Nat), v = .agg (waveC f l ao cap) ∧ f.size ≤ 1048576 ∧ ChksAt w ao l ∧ (∀ c ∈ l, -9223372036854775808 ≤ c.pad ∧ c.pad ≤ 9223372036854775807) ∧ bulkL l ≤ 1048576 := by
 obtain ⟨cs, rfl, hs⟩ := okWide_struct Tryz.underlying27 hv
 obtain ⟨fuel, hf⟩ := h
 obtain ⟨y0, y1, m, hx, hl, h0, h1⟩ := trod_struct2 Tryz.underlying27 hf
 obtain ⟨s0, e0, f0, _⟩ := DataW.trod_string Tryz.underlying9 h0
 have hd : d = .agg [y0.1, y1.1] := congrArg Prod.fst hx
 have hl2 : cs.toList.length = 2 := by
  rw [Array.length_toList, hs]
  kernel_rfl
 obtain ⟨l⟩ := cs
 match l, hl2 with
 | [c0, c1], _ =>
  simp [acells9, Value.cells] at e0
  subst e0
  have h1' : DataW.trod enc Tryz.prog w 0 (fun _ => true) held m 25 [c1] = some y1 := by
   simpa [acellsS, Value.cells] using h1
  have hc1 : ∃ ao len cap, c1 = .slice ao len cap := by
   rcases open_slice Tryz.underlying25 h1' with ⟨hcs, _⟩ | ⟨a, len', cap', _, _, _, _, hcs, _⟩
   ·simp at hcs
    exact ⟨none, 0, 0, hcs⟩
   ·simp at hcs
    exact ⟨some a, len', cap', hcs⟩
  obtain ⟨ao, len, cap, rfl⟩ := hc1
  have hb1 : Rows.uptoBulk y1.1 ≤ 1048576 := by
   rw [hd] at hb
   simp only [Rows.uptoBulk, Rows.uptoBulkAll] at hb
   omega
  have hb0 : s0.size ≤ 1048576 := by
   rw [hd, f0] at hb
   simp only [Rows.uptoBulk, Rows.uptoBulkAll] at hb
   have e : s0.data.toList.length = s0.size := by rw [Array.length_toList]; rfl
   omega
  obtain ⟨l, rfl, hl, _, hp, hbl⟩ := open_chunks (d := y1.1) (q := y1.2) ⟨m, h1'⟩ hb1
  exact ⟨s0, l, ao, cap, rfl, hb0, hl, hp, hbl⟩
theorem bulk_cons (c : Chk) (t : List Chk) : bulkL (c :: t) = (c.id.size + c.body.size + 4) + bulkL t := by unfold bulkL; simp
theorem bulk_set (x : Chk) (n : Nat) : ∀ (l : List Chk) (k : Nat), (∀ c, l[k]? = some c → x.id.size + x.body.size ≤ c.id.size + c.body.size + n) → bulkL (l.set k x) ≤ bulkL l + n
 | [], k, _ => by simp
 | c :: t, 0, h => by
  have := h c rfl
  rw [List.set_cons_zero, bulk_cons, bulk_cons]
  omega
 | c :: t, k + 1, h => by
  have := bulk_set x n t k (fun c' hc => h c' (by simpa using hc))
  rw [List.set_cons_succ, bulk_cons, bulk_cons]
  omega
theorem dL_fair (p : Pcm) (f : ByteArray) (l : List Chk) (hf : fitsN 2 p = 0) (hb : bulkL l ≤ 1048576) (hp : ∀ c ∈ l, -9223372036854775808 ≤ c.pad ∧ c.pad ≤ 9223372036854775807) :
  (∀ (i : Nat) (c : Chk), (dL p f l)[i]? = some c → FairC c) ∧ (layL (dL p f l) true).length ≤ 40000000000000 := by
 have key : bulkL (dL p f l) ≤ bulkL l + 33554432 ∧ (∀ c ∈ dL p f l, -9223372036854775808 ≤ c.pad ∧ c.pad ≤ 9223372036854775807) := by
  have hps := pack_size p hf (!(dX f l).lit) false
  unfold dL
  cases hs : (findN l ssndT).2 == 1
  ·exact ⟨by simp, fun c hc => hp c (by simpa using hc)⟩
  ·rcases findN_cases l ssndT with ⟨_, a2, _⟩ | ⟨k, d, a1, a2, _, _⟩
   ·rw [a2] at hs
    cases hs
   ·have hat := atC_get _ _ _ a1
    rw [if_pos rfl, a2]
    unfold filL filC7
    rw [if_neg (by omega), hat, Int.toNat_natCast]
    refine ⟨bulk_set _ _ _ _ fun c hc => ?_, fun c hc => ?_⟩
    ·rw [a1] at hc
     cases hc
     simp only [ByteArray.size_append]
     have : (packN p (!(dX f l).lit) false).size ≤ 33554432 := hps
     omega
    ·rcases List.mem_or_eq_of_mem_set hc with h | h
     ·exact hp c h
     ·subst h
      exact hp d (List.mem_of_getElem? a1)
 refine ⟨fun i c hi => ?_, ?_⟩
 ·have hm := List.mem_of_getElem? hi
  have := bulk_mem _ c hm
  obtain ⟨q1, q2⟩ := key.2 c hm
  exact ⟨by omega, by omega, q1, q2⟩
 ·have := bulk_lay (dL p f l) true
  omega
theorem bulk_fairT (l : List Chk) (hb : bulkL l ≤ 1048576) : FairT l := fun c hc => by
 have := bulk_mem l c hc
 exact ⟨by omega, by omega⟩

end Go.Proofs.YtaepgjheknkojaaGreat
