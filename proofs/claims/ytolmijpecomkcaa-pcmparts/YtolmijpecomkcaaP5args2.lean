/- Own text: a list of PCMs that came in as an argument, opened. -/
import Derived.Test.YtolmijpecomkcaaP5args
import Derived.Deep.Slices
namespace Go.Proofs.Ytolmijpecomkcaa
open Go.ChangeShapes Go.WideShapes Go.ChangeAt Go.RowKit Go.Deep Go.Joins
set_option linter.unusedSimpArgs false
set_option linter.unusedVariables false

/-- A list of PCMs in memory. -/
structure PcmsAt (w : World) (ao : Option Addr) (ps : List Pcm) : Prop where
  len : ps.length ≤ 2932031007403
  lies : 0 < ps.length → ∃ b off, ao = some ⟨b, off, none⟩ ∧ ∀ i p, ps[i]? = some p → ∃ a c, w.cell? ⟨b, off + i * 4, none⟩ = some (.int .i64 p.rate) ∧ w.cell? ⟨b, off + (i * 4 + 1), none⟩ = some (.int .i64 p.ch) ∧ w.cell? ⟨b, off + (i * 4 + 2), none⟩ = some (.int .i64 p.wd) ∧
    w.cell? ⟨b, off + (i * 4 + 3), none⟩ = some (.slice a p.pl.length c) ∧ RowsAt w a p.pl ∧ Fair p

theorem abytesP : Try.prog.bytesOf 24 = 48 := by kernel_rfl

theorem open_pcms {H : Type} {enc : TypeId × Value → H} {w : World} {held : Bool} {ao : Option Addr} {len cap : Nat} {d : DataW H} {q : List MemPlace}
    (h : DataW.Trod enc Try.prog w 0 (fun _ => true) held 44 (.slice ao len cap) d q) (hw : ∀ n ∈ d.weights Try.prog 44, n ≤ reachBytes) : ∃ ps : List Pcm, len = ps.length ∧ PcmsAt w ao ps := by
  obtain ⟨fuel, hf⟩ := h
  rcases open_slice Try.underlying44 hf with ⟨hcs, _⟩ | ⟨a, len', cap', m, n, D, Pl, hcs, _, hl, hm, hmm, hd, hx⟩
  · simp [Value.cells] at hcs
    obtain ⟨rfl, rfl, rfl⟩ := hcs
    exact ⟨[], rfl, ⟨by simp, fun h => by simp at h⟩⟩
  · simp [Value.cells] at hcs
    obtain ⟨rfl, rfl, rfl⟩ := hcs
    simp only [if_true] at hmm
    subst hmm
    rw [acellsP] at hx
    have hd1 : d = DataW.slice (List.map D (List.range len)) (List.map (fun j => D (len + j)) (List.range (m - len))) := congrArg Prod.fst hd
    rw [hd1] at hw
    simp only [DataW.weights, Try.underlying44] at hw
    have hcap : m * 48 ≤ reachBytes := by
      have := hw _ (List.mem_cons_self)
      rw [abytesP] at this
      simp only [List.length_map, List.length_range] at this
      have e : len + (m - len) = m := by omega
      rwa [e] at this
    simp only [reachBytes] at hcap
    have hall : ∀ i, i < len → ∃ q : Int × Int × Int × List (List Int), ∃ p : Pcm, p = ⟨q.1, q.2.1, q.2.2.1, q.2.2.2⟩ ∧ ∃ aa c, w.cell? (a.add (i * 4)) = some (.int .i64 p.rate) ∧ w.cell? (a.add (i * 4 + 1)) = some (.int .i64 p.ch) ∧ w.cell? (a.add (i * 4 + 2)) = some (.int .i64 p.wd) ∧
        w.cell? (a.add (i * 4 + 3)) = some (.slice aa p.pl.length c) ∧ RowsAt w aa p.pl ∧ Fair p := by
      intro i hi
      obtain ⟨cs', h1, h2⟩ := hx i (by omega)
      have hmem : D i ∈ List.map D (List.range len) := List.mem_map.2 ⟨i, List.mem_range.2 hi, rfl⟩
      obtain ⟨p, aa, c, hcs, hr, hfa⟩ := open_pcm_cells h2 (fun n hn => hw _ (List.mem_cons.2 (.inr (List.mem_append.2 (.inl (weights_all _ _ _ _ hmem _ hn))))))
      obtain ⟨_, hlen, hcell⟩ := World.cells?_some h1
      have g0 := hcell 0 (by omega)
      have g1 := hcell 1 (by omega)
      have g2 := hcell 2 (by omega)
      have g3 := hcell 3 (by omega)
      rw [add_add] at g0 g1 g2 g3
      subst hcs
      exact ⟨(p.rate, p.ch, p.wd, p.pl), p, rfl, aa, c, g0, g1, g2, g3, hr, hfa⟩
    obtain ⟨f0, hf'⟩ := choose_lt (α := Int × Int × Int × List (List Int)) hall
    obtain ⟨f, hfd⟩ : ∃ f : Nat → Pcm, f = fun i => ⟨(f0 i).1, (f0 i).2.1, (f0 i).2.2.1, (f0 i).2.2.2⟩ := ⟨_, rfl⟩
    have hlen : ((List.range len).map f).length = len := by simp
    refine ⟨(List.range len).map f, hlen.symm, ⟨by rw [hlen]; omega, fun h0 => ?_⟩⟩
    rw [hlen] at h0
    obtain ⟨_, _, _, _, g0, _⟩ := hf' 0 h0
    rw [Nat.zero_mul] at g0
    obtain ⟨b, off, rfl⟩ := at_spot g0
    refine ⟨b, off, rfl, fun i p hp => ?_⟩
    have hi : i < len := by
      have := (List.getElem?_eq_some_iff.1 hp).1
      rwa [hlen] at this
    have hfp : f i = p := by
      simp [hi] at hp
      exact hp
    obtain ⟨p', hp', aa, c, q0, q1, q2, q3, q4, q5⟩ := hf' i hi
    have hpp : p' = p := by rw [← hfp, hfd]; exact hp'
    rw [hpp] at q0 q1 q2 q3 q4 q5
    rw [add_plain] at q0 q1 q2 q3
    exact ⟨aa, c, q0, q1, q2, q3, q4, q5⟩

end Go.Proofs.Ytolmijpecomkcaa
