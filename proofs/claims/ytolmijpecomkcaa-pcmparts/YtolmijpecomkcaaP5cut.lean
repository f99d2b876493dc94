/- Own text: the walk of the document's Cut. -/
import Derived.Test.YtolmijpecomkcaaG1
import Derived.Test.YtolmijpecomkcaaG2
namespace Go.Proofs.Ytolmijpecomkcaa
open Go.RowKit
set_option linter.unusedSimpArgs false
set_option linter.unusedVariables false

def cutL (f t : Nat) (l : List Int) : List Int := (l.take t).drop f
def cutP (p : Pcm) (f t : Nat) : Pcm := ⟨p.rate, p.ch, p.wd, p.pl.map (cutL f t)⟩
theorem cutL_length (f t : Nat) (l : List Int) (h1 : f ≤ t) (h2 : t ≤ l.length) : (cutL f t l).length = t - f := by
  unfold cutL
  rw [List.length_drop, List.length_take]
  omega
theorem cutL_mem (f t : Nat) (l : List Int) : ∀ n ∈ cutL f t l, n ∈ l := fun n hn => List.mem_of_mem_take (List.mem_of_mem_drop hn)
theorem cutL_get (f t : Nat) (l : List Int) (h1 : f ≤ t) (h2 : t ≤ l.length) (j : Nat) (hj : j < t - f) : (cutL f t l)[j]? = some (l.getD (f + j) 0) := by
  unfold cutL
  rw [List.getElem?_drop, List.getElem?_take, if_pos (by omega), List.getD_eq_getElem?_getD, List.getElem?_eq_getElem (by omega)]
  rfl
theorem getD_map_cut (xs : List (List Int)) (f t i : Nat) (h : i < xs.length) : (xs.map (cutL f t)).getD i [] = cutL f t (xs.getD i []) := by
  rw [List.getD_eq_getElem?_getD, List.getElem?_map, List.getElem?_eq_getElem h, List.getD_eq_getElem?_getD, List.getElem?_eq_getElem h]
  rfl
theorem take_map_snoc (xs : List (List Int)) (f t i : Nat) (h : i < xs.length) : (xs.take (i + 1)).map (cutL f t) = (xs.take i).map (cutL f t) ++ [cutL f t (xs.getD i [])] := by
  rw [List.take_succ_eq_append_getElem h, List.map_append, List.getD_eq_getElem?_getD, List.getElem?_eq_getElem h]
  rfl

theorem infoP : (Try.prog.info? 24).map (·.size) = some 4 := by kernel_rfl
theorem infoI : (Try.prog.info? 45).map (fun i => (i.zero, i.size, i.bytes)) = some (some (.slice none 0 0), 1, 24) := by kernel_rfl
theorem info3' : (Try.prog.info? 3).map (fun i => (i.zero, i.size, i.bytes)) = some (some (.int .i64 0), 1, 8) := by kernel_rfl

abbrev zeroP : Array Value := #[.int .i64 0, .int .i64 0, .int .i64 0, .slice none 0 0]

/-- On the way through Cut. -/
structure Ct (w0 : World) (p : Pcm) (ao : Option Addr) (cap : Nat) (v : Value) (vs : List Value) (xs : List (List Int)) (w : World) : Prop where
  box : w.heap[w0.heap.size]? = some (.cells (pcmC p ao cap) 24 (0, 0))
  res : w.heap[w0.heap.size + 1]? = some (.cells zeroP 24 (0, 0))
  q : w.heap[w0.heap.size + 2]? = some (.cells #[.int .i64 p.rate, .int .i64 p.ch, .int .i64 p.wd, v] 24 (0, 0))
  mat : OwnMat 45 (w0.heap.size + 3) w v vs xs
  size : w0.heap.size + 3 ≤ w.heap.size
  below : Below w0.heap.size w0 w

theorem block_set (w : World) (p i : Nat) (cs : Array Value) (t : TypeId) (u : Value) (h : w.heap[p]? = some (.cells cs t (0, 0))) :
    (w.setCell ⟨p, i, none⟩ u).heap[p]? = some (.cells (cs.setIfInBounds i u) t (0, 0)) := by
  simp only [World.setCell, Array.getElem?_modify, h]
  simp
section
variable {w0 w w1 w2 w3 : World} {p : Pcm} {ao : Option Addr} {cap : Nat} {v v' u : Value} {vs : List Value} {xs : List (List Int)} {l : List Int}
theorem below_of_grown (h : w.grownBy w1 none) : Below w.heap.size w w1 := ⟨h.os, h.tape, h.output, h.size, fun k hk => h.block k hk (by simp)⟩
theorem Ct.next (h : Ct w0 p ao cap v vs xs w) (hB : Below w.heap.size w w1) : Ct w0 p ao cap v vs xs w1 :=
  ⟨by rw [hB.block _ (lt_of_block h.box)]; exact h.box, by rw [hB.block _ (lt_of_block h.res)]; exact h.res, by rw [hB.block _ (lt_of_block h.q)]; exact h.q, h.mat.next hB, Nat.le_trans h.size hB.size, h.below.trans (hB.mono h.below.size)⟩
theorem Ct.drew (h : Ct w0 p ao cap v vs xs w) : Ct w0 p ao cap v vs xs w.drew := h.next ⟨rfl, rfl, rfl, Nat.le_refl _, fun _ _ => rfl⟩
theorem Ct.c3 (h : Ct w0 p ao cap v vs xs w) : w.cell? ⟨w0.heap.size, 3, none⟩ = some (.slice ao p.pl.length cap) := by rw [cell_of_row _ _ _ _ _ _ h.box]; rfl
theorem Ct.q3 (h : Ct w0 p ao cap v vs xs w) : w.cell? ⟨w0.heap.size + 1 + 1, 3, none⟩ = some v := by rw [cell_of_row _ _ _ _ _ _ h.q]; rfl
theorem Ct.f3 (h : Ct w0 p ao cap v vs xs w) : w.frozen? ⟨w0.heap.size + 1 + 1, 3, none⟩ = false := by
  have := h.q
  simp [World.frozen?, this]
theorem Ct.new (w : World) (p : Pcm) (ao : Option Addr) (cap : Nat) : Ct w p ao cap noS [] [] (((w.alloc (.cells (pcmC p ao cap) 24)).alloc (.cells zeroP 24)).alloc (.cells #[.int .i64 p.rate, .int .i64 p.ch, .int .i64 p.wd, noS] 24)) := by
  refine ⟨?_, ?_, ?_, OwnMat.empty _ _ _, by simp, (((Below.refl w.heap.size w).alloc (Nat.le_refl _) _).alloc (by simp) _).alloc (by simp; omega) _⟩
  · rw [Below.heap_alloc _ _ _ (by simp; omega), Below.heap_alloc _ _ _ (by simp)]
    exact heap_alloc_new _ _
  · rw [Below.heap_alloc _ _ _ (by simp)]
    have h := heap_alloc_new (w.alloc (.cells (pcmC p ao cap) 24)) (.cells zeroP 24)
    have e : (w.alloc (.cells (pcmC p ao cap) 24)).heap.size = w.heap.size + 1 := by simp
    rw [e] at h
    exact h
  · have h := heap_alloc_new ((w.alloc (.cells (pcmC p ao cap) 24)).alloc (.cells zeroP 24)) (.cells #[.int .i64 p.rate, .int .i64 p.ch, .int .i64 p.wd, noS] 24)
    have e : ((w.alloc (.cells (pcmC p ao cap) 24)).alloc (.cells zeroP 24)).heap.size = w.heap.size + 2 := by simp
    rw [e] at h
    exact h
/-- One more plane: made of its own (w1), laid into a list of one (w2), appended (w3): all but the store. -/
theorem Ct.grown (h : Ct w0 p ao cap v vs xs w2) (hg : w2.grownBy w3 v.ownBlock) : w3.heap[w0.heap.size]? = some (.cells (pcmC p ao cap) 24 (0, 0)) ∧ w3.heap[w0.heap.size + 1]? = some (.cells zeroP 24 (0, 0)) ∧ w3.heap[w0.heap.size + 2]? = some (.cells #[.int .i64 p.rate, .int .i64 p.ch, .int .i64 p.wd, v] 24 (0, 0)) ∧ w0.heap.size + 3 ≤ w3.heap.size ∧ Below w0.heap.size w0 w3 := by
  have hne : ∀ k, k < w0.heap.size + 3 → some k ≠ v.ownBlock := fun k hk e => by
    have := (h.mat.outer.lt k e.symm).1
    omega
  refine ⟨by rw [hg.block _ (lt_of_block h.box) (hne _ (by omega))]; exact h.box, by rw [hg.block _ (lt_of_block h.res) (hne _ (by omega))]; exact h.res, by rw [hg.block _ (lt_of_block h.q) (hne _ (by omega))]; exact h.q, Nat.le_trans h.size hg.size, ?_⟩
  exact grown_to hg h.below (by have := h.size; omega) (fun k hk => by have := (h.mat.outer.lt k hk).1; omega)
theorem Ct.push (h : Ct w0 p ao cap v vs xs w2) (hu : w2.ownsRow (w0.heap.size + 3) 3 1 u l.length (intsC l)) (hn : ∀ k, u.ownBlock = some k → ∀ i, i < xs.length → (vs.getD i noS).ownBlock ≠ some k) (hn2 : ∀ k, u.ownBlock = some k → v.ownBlock ≠ some k)
    (ho : w3.ownsRow (w0.heap.size + 3) 45 1 v' (xs.length + 1) (vs ++ [u])) (hg : w2.grownBy w3 v.ownBlock) (hb : v'.ownBlock = v.ownBlock ∨ v'.ownBlock = some w2.heap.size) :
    Ct w0 p ao cap v' (vs ++ [u]) (xs ++ [l]) (w3.setCell ⟨w0.heap.size + 1 + 1, 3, none⟩ v') := by
  obtain ⟨g1, g2, g3, g4, g5⟩ := h.grown hg
  have hm := h.mat.push (u := u) (l := l) hu (fun i hi => ?_) ?_ ho hg hb
  · have hblk : ∀ {x : Value} {e : TypeId} {n : Nat} {ys : List Value}, w3.ownsRow (w0.heap.size + 3) e 1 x n ys → x.ownBlock ≠ some (w0.heap.size + 2) := fun {x} {e} {n} {ys} hx q => by
      have := (hx.lt _ q).1
      omega
    refine ⟨?_, ?_, ?_, ⟨ownsRow_setCell_other hm.outer (hblk hm.outer) _, fun i hi => ownsRow_setCell_other (hm.inner i hi) (hblk (hm.inner i hi)) _, hm.apart, hm.aside⟩, by simpa [World.setCell] using g4, g5.setCell (by simp; omega) _⟩
    · rw [Below.heap_setCell _ _ _ _ (by simp; omega)]
      exact g1
    · rw [Below.heap_setCell _ _ _ _ (by simp)]
      exact g2
    · have e := block_set w3 (w0.heap.size + 2) 3 _ _ v' g3
      exact e
  · cases hub : u.ownBlock with
    | none =>
      cases hvb : (vs.getD i noS).ownBlock with
      | none => exact .inl rfl
      | some k => exact .inr (by simp)
    | some k => exact .inr (hn k hub i hi)
  · cases hub : u.ownBlock with
    | none => exact .inl rfl
    | some k => exact .inr (fun e => hn2 k hub e.symm)
end

theorem one_cell {w : World} {u : Value} {e : TypeId} {ad : Addr} (q : some (⟨w.heap.size, 0, none⟩ : Addr) = some ad) {j : Nat} {x : Value} (hj : [u][j]? = some x) : (w.alloc (.cells #[u] e)).cell? (ad.add j) = some x := by
  cases q
  rw [Addr.add_mid, Nat.zero_add, cell_of_row _ _ _ _ _ _ (heap_alloc_new w _)]
  simpa using hj
theorem owns_shape {w : World} {base : Nat} {e : TypeId} {v : Value} {n : Nat} {xs : List Value} (h : w.ownsRow base e 1 v n xs) : ∃ a m c, v = .slice a m c := by
  rcases h.2 with ⟨rfl, _⟩ | ⟨g, c, cur, rfl, _⟩
  · exact ⟨_, _, _, rfl⟩
  · exact ⟨_, _, _, rfl⟩
theorem owns_oneCell {w : World} {base : Nat} {e : TypeId} {v : Value} {n : Nat} {xs : List Value} (h : w.ownsRow base e 1 v n xs) : v.oneCell' = true := by
  rcases h.2 with ⟨rfl, _⟩ | ⟨g, c, cur, rfl, _⟩ <;> rfl
theorem owns_one {w : World} {base : Nat} {e : TypeId} {v : Value} {n : Nat} {xs : List Value} (h : w.ownsRow base e 1 v n xs) : ∀ x ∈ [v], x.oneCell' = true := by
  intro x hx
  rw [List.mem_singleton] at hx
  subst hx
  exact owns_oneCell h
theorem owns_len {w : World} {base : Nat} {e : TypeId} {v : Value} {m : Nat} {l : List Int} (h : w.ownsRow base e 1 v (0 + m) ([] ++ intsC l)) (hl : l.length = m) : w.ownsRow base e 1 v l.length (intsC l) := by
  rw [Nat.zero_add, List.nil_append, ← hl] at h
  exact h
theorem new_apart {w : World} {u x : Value} {base : Nat} {e : TypeId} {n : Nat} {ys : List Value} (hb : u.ownBlock = noS.ownBlock ∨ u.ownBlock = some w.heap.size) {k : Nat} (hk : u.ownBlock = some k) (hx : w.ownsRow base e 1 x n ys) : x.ownBlock ≠ some k := by
  intro e2
  have h1 := (hx.lt k e2).2
  rcases hb with q | q
  · rw [q] at hk
    cases hk
  · rw [q] at hk
    cases hk
    omega

theorem OwnMat.setOther {E : TypeId} {B : Nat} {w : World} {v : Value} {vs : List Value} {xs : List (List Int)} (h : OwnMat E B w v vs xs) {a : Addr} (ha : a.block < B) (u : Value) : OwnMat E B (w.setCell a u) v vs xs := by
  have hblk : ∀ {x : Value} {e : TypeId} {n : Nat} {ys : List Value}, w.ownsRow B e 1 x n ys → x.ownBlock ≠ some a.block := fun {x} {e} {n} {ys} hx q => by
    have := (hx.lt _ q).1
    omega
  exact ⟨ownsRow_setCell_other h.outer (hblk h.outer) _, fun i hi => ownsRow_setCell_other (h.inner i hi) (hblk (h.inner i hi)) _, h.apart, h.aside⟩
theorem Fresh.mono {B B' : Nat} {w : World} {ao : Option Addr} {xs : List (List Int)} (h : Fresh B w ao xs) (hB : B' ≤ B) : Fresh B' w ao xs :=
  ⟨fun b off e h0 => Nat.le_trans hB (h.own b off e h0), fun b off e i hi a n c hc ba oa ha => ⟨Nat.le_trans hB (h.rows b off e i hi a n c hc ba oa ha).1, (h.rows b off e i hi a n c hc ba oa ha).2⟩⟩
theorem results_one {fn : Func} {p : Tmp} {ty : TypeId} (h : fn.results = #[.cell p ty]) (tmps : Array Value) (P : Program) (w : World) :
    (results fn tmps).run P w = ((asAddr (tmps.getD p undef)).run P w).andThen fun a w₁ => (loadVar ty a).run P w₁ := by
  simp only [results, h]
  simp [Sem.run_bind, Result.andThen]

theorem elemI : Try.prog.elem 45 = 3 := by kernel_rfl
theorem undI : Try.prog.underlying 45 = some (.slice (Try.prog.elem 45)) := by rw [elemI]; exact Try.underlying45
theorem size3 (w : World) : (Go.sizeOf 3).run Try.prog w = .ok 1 w := by
  have h := info3'
  cases hq : Try.prog.info? 3 with
  | none => rw [hq] at h; cases h
  | some i =>
    rw [hq] at h
    simp only [Option.map_some, Option.some.injEq, Prod.mk.injEq] at h
    simp [Go.sizeOf, typeInfo, hq, h.2.1]

/-- A part of a list of numbers. -/
theorem slice_ints (a : Option Addr) (n c f t : Nat) (h1 : f ≤ t) (h2 : t ≤ n) (h3 : n ≤ c) (h0 : a = none → c = 0) :
    ∃ xo c', (∀ w, (Instr.slice 45 (.slice a n c) (some (.int .i64 (f : Int))) (some (.int .i64 (t : Int))) none).run Try.prog w = .ok (.slice xo (t - f) c') w) ∧ (xo = none → t - f = 0 ∧ c' = 0) ∧ (∀ b off, a = some ⟨b, off, none⟩ → f < t → xo = some ⟨b, off + f, none⟩) := by
  cases a with
  | none =>
    have := h0 rfl
    refine ⟨none, c - f, fun w => ?_, fun _ => (by omega), fun b off q => (by cases q)⟩
    rw [run_slice_lh w 45 none n c undI .i64 .i64 _ _ (by omega) (by omega) (by omega), elemI, size3]
    simp [Result.andThen, sliced]
  | some ad =>
    refine ⟨some (if c = f then ad else ad.add f), c - f, fun w => ?_, fun q => (by cases q), fun b off q hlt => ?_⟩
    · rw [run_slice_lh w 45 (some ad) n c undI .i64 .i64 _ _ (by omega) (by omega) (by omega), elemI, size3]
      simp only [Result.andThen_ok, sliced, Int.toNat_natCast, Option.map_some, Nat.mul_one]
      split <;> rfl
    · cases q
      rw [if_neg (by omega), Addr.add_mid]

/-- A PCM is handed back, all in new memory that is the caller's now. -/
def Cuts (w : World) (q : Pcm) (e : Ending) (w' : World) : Prop := ∃ ao' cap', e = .returned (pcmV q ao' cap') ∧ RowsAt w' ao' q.pl ∧ Fresh w.heap.size w' ao' q.pl ∧ Below w.heap.size w w' ∧ ∃ vs, OwnMat 45 (w.heap.size + 3) w' (.slice ao' q.pl.length cap') vs q.pl
set_option maxRecDepth 20000 in
set_option maxHeartbeats 6400000 in
theorem rcut_own (p : Pcm) (ao : Option Addr) (cap : Nat) (f t n : Nat) (w : World) (hr : RowsAt w ao p.pl) (h8 : p.pl.length ≤ 8) (hn : ∀ i, i < p.pl.length → (p.pl.getD i []).length = n) (hn20 : n ≤ 1048576) (hft : f ≤ t) (htn : t ≤ n) :
    Calls Try.prog 48 #[pcmV p ao cap, .int .i64 (f : Int), .int .i64 (t : Int)] w fun e w' => Cuts w (cutP p f t) e w' := by
  have HR : Hid (RowsAt w ao p.pl) := hr
  have HN : Hid (∀ i, i < p.pl.length → (p.pl.getD i []).length = n) := hn
  have HW : Hid (Ct w p ao cap noS [] [] (((w.alloc (.cells (pcmC p ao cap) 24)).alloc (.cells zeroP 24)).alloc (.cells #[.int .i64 p.rate, .int .i64 p.ch, .int .i64 p.wd, noS] 24))) := Ct.new w p ao cap
  clear hr hn
  go_enter Try.func48, Try.ntmps48
  go_wp2_with fail
  generalize hwa : World.alloc _ _ = wa
  have HA : Hid (Ct w p ao cap noS [] [] wa) := by
    rw [← hwa]
    exact HW.out
  clear hwa HW
  go_loopw [8] (fun x wr => ∃ i : Nat, i ≤ p.pl.length ∧ x = .int .i64 (i : Int) ∧ ∃ v vs, Ct w p ao cap v vs ((p.pl.take i).map (cutL f t)) wr) (fun x _ => p.pl.length - (intOf x).toNat)
  case atStart => exact ⟨0, Nat.zero_le _, rfl, noS, [], HA.out⟩
  case round =>
    clear HA
    obtain ⟨i, hi, rfl, v, vs, hct⟩ := hrel
    have HC : Hid (Ct w p ao cap v vs ((p.pl.take i).map (cutL f t)) wr) := hct
    have d3 := hct.c3
    clear hct
    by_cases hlt : i < p.pl.length
    · obtain ⟨b, off, a, c, rfl, hlc, hac, hcell, hints⟩ := HR.out.at2 i hlt
      have hll := HN.out i hlt
      obtain ⟨xo, c', hsl, hx0, hxs⟩ := slice_ints a n c f t hft htn (by omega) hac
      have HX0 : Hid (xo = none → t - f = 0 ∧ c' = 0) := hx0
      have HLL : Hid ((p.pl.getD i []).length = n) := hll
      have HCL : Hid (∀ wx, Below w.heap.size w wx → wx.cell? ⟨b, off + i, none⟩ = some (.slice a n c)) := by
        rw [hll] at hcell
        exact hcell
      have HNW : Hid (∀ wx, Below w.heap.size w wx → ∀ ad, xo = some ad → ∀ j u, (intsC (cutL f t (p.pl.getD i [])))[j]? = some u → wx.cell? (ad.add j) = some u) := fun wx hwx ad hxa j u hj => by
        have hjl : j < t - f := by
          have := (List.getElem?_eq_some_iff.1 hj).1
          rwa [intsC_length, cutL_length f t _ hft (by omega)] at this
        rw [intsC, List.getElem?_map, cutL_get f t _ hft (by omega) j hjl] at hj
        cases hj
        obtain ⟨b2, off2, e2, hcell2, _, _⟩ := hints.at (f + j) (by omega)
        have e3 := hxs b2 off2 e2 (by omega)
        rw [e3] at hxa
        cases hxa
        rw [Addr.add_mid, Nat.add_assoc]
        exact hcell2 wx hwx
      have hS0 := HCL.out wr.drew HC.out.drew.below
      have hSd : wr.drew.cell? ⟨w.heap.size, 3, none⟩ = some (.slice (some ⟨b, off, none⟩) p.pl.length cap) := HC.out.drew.c3
      obtain ⟨iI, hI0, hI1, hI2, hI3⟩ := info_parts infoI
      obtain ⟨i3, h30, h31, h32, h33⟩ := info_parts info3'
      have HI : Hid (Try.prog.info? 45 = some iI ∧ iI.zero = some noS ∧ iI.size = 1 ∧ iI.bytes = 24) := ⟨hI0, hI1, hI2, hI3⟩
      have H3 : Hid (Try.prog.info? 3 = some i3 ∧ i3.zero = some (.int .i64 0) ∧ i3.size = 1 ∧ i3.bytes = 8) := ⟨h30, h31, h32, h33⟩
      have HCU : Hid ((cutL f t (p.pl.getD i [])).length = t - f) := cutL_length f t _ hft (by omega)
      have HTS : Hid ((p.pl.take (i + 1)).map (cutL f t) = (p.pl.take i).map (cutL f t) ++ [cutL f t (p.pl.getD i [])]) := take_map_snoc p.pl f t i hlt
      have HXL : Hid (((p.pl.take i).map (cutL f t)).length = i) := by
        show _ = _
        rw [List.length_map, List.length_take]
        omega
      clear hI0 hI1 hI2 hI3 h30 h31 h32 h33 hcell hints hxs hx0 hll hac hlc
      generalize cutL f t (p.pl.getD i []) = cl at *
      generalize (p.pl.take i).map (cutL f t) = xs at *
      have hsl2 : ∀ w, (Instr.sliceAt 45 (.slice a n c) (some (.int .i64 (f : Int))) (some (.int .i64 (t : Int))) none).run Try.prog w = .ok (.slice xo (t - f) c') w := fun w => by rw [run_sliceAt_slice w 45 _ _ _ _ undI]; exact hsl w
      go_wp2_with fail
      refine wp_region_held_drew (S := fun wx => wx.cell? ⟨w.heap.size, 3, none⟩ = some (.slice (some ⟨b, off, none⟩) p.pl.length cap) ∧ wx.cell? ⟨b, off + i, none⟩ = some (.slice a n c)) (by kernel_rfl) ⟨hSd, hS0⟩ (fun hS => ?_)
      refine wpAnyH_take (i := 0) (v := .pointer (some ⟨w.heap.size + 1 + 1, 3, none⟩)) rfl (by kernel_rfl) (by kernel_rfl) (by kernel_rfl) (fun _ _ _ h => h) (Or.inl ⟨by rfl, fun w hSw => by obtain ⟨s1, s2⟩ := hSw; go_simp⟩) hS ?_
      simp only [Act.put, List.getElem_toArray, List.getElem_cons_succ, List.getElem_cons_zero, List.setIfInBounds_toArray, List.set_cons_zero, List.set_cons_succ]
      refine wpAnyH_take (i := 2) (v := .pointer (some ⟨w.heap.size, 3, none⟩)) rfl (by kernel_rfl) (by kernel_rfl) (by kernel_rfl) (fun _ _ _ h => h) (Or.inl ⟨by rfl, fun w hSw => by obtain ⟨s1, s2⟩ := hSw; go_simp⟩) hS ?_
      simp only [Act.put, List.getElem_toArray, List.getElem_cons_succ, List.getElem_cons_zero, List.setIfInBounds_toArray, List.set_cons_zero, List.set_cons_succ]
      refine wpAnyH_take (i := 3) (v := .slice (some ⟨b, off, none⟩) p.pl.length cap) rfl (by kernel_rfl) (by kernel_rfl) (by kernel_rfl) (fun _ _ _ h => h) (Or.inl ⟨by rfl, fun w hSw => by obtain ⟨s1, s2⟩ := hSw; go_simp⟩) hS ?_
      simp only [Act.put, List.getElem_toArray, List.getElem_cons_succ, List.getElem_cons_zero, List.setIfInBounds_toArray, List.set_cons_zero, List.set_cons_succ]
      refine wpAnyH_take (i := 4) (v := .int .i64 (i : Int)) rfl (by kernel_rfl) (by kernel_rfl) (by kernel_rfl) (fun _ _ _ h => h) (Or.inl ⟨by rfl, fun w hSw => by obtain ⟨s1, s2⟩ := hSw; go_simp⟩) hS ?_
      simp only [Act.put, List.getElem_toArray, List.getElem_cons_succ, List.getElem_cons_zero, List.setIfInBounds_toArray, List.set_cons_zero, List.set_cons_succ]
      refine wpAnyH_take (i := 5) (v := .pointer (some ⟨b, off + i, none⟩)) rfl (by kernel_rfl) (by kernel_rfl) (by kernel_rfl) (fun _ _ _ h => h) (Or.inl ⟨by rfl, fun w hSw => by obtain ⟨s1, s2⟩ := hSw; go_simp⟩) hS ?_
      simp only [Act.put, List.getElem_toArray, List.getElem_cons_succ, List.getElem_cons_zero, List.setIfInBounds_toArray, List.set_cons_zero, List.set_cons_succ]
      refine wpAnyH_take (i := 6) (v := .slice a n c) rfl (by kernel_rfl) (by kernel_rfl) (by kernel_rfl) (fun _ _ _ h => h) (Or.inl ⟨by rfl, fun w hSw => by obtain ⟨s1, s2⟩ := hSw; go_simp⟩) hS ?_
      simp only [Act.put, List.getElem_toArray, List.getElem_cons_succ, List.getElem_cons_zero, List.setIfInBounds_toArray, List.set_cons_zero, List.set_cons_succ]
      refine wpAnyH_take (i := 7) (v := .int .i64 (f : Int)) rfl (by kernel_rfl) (by kernel_rfl) (by kernel_rfl) (fun _ _ _ h => h) (Or.inl ⟨by rfl, fun w hSw => by obtain ⟨s1, s2⟩ := hSw; go_simp⟩) hS ?_
      simp only [Act.put, List.getElem_toArray, List.getElem_cons_succ, List.getElem_cons_zero, List.setIfInBounds_toArray, List.set_cons_zero, List.set_cons_succ]
      refine wpAnyH_take (i := 8) (v := .int .i64 (t : Int)) rfl (by kernel_rfl) (by kernel_rfl) (by kernel_rfl) (fun _ _ _ h => h) (Or.inl ⟨by rfl, fun w hSw => by obtain ⟨s1, s2⟩ := hSw; go_simp⟩) hS ?_
      simp only [Act.put, List.getElem_toArray, List.getElem_cons_succ, List.getElem_cons_zero, List.setIfInBounds_toArray, List.set_cons_zero, List.set_cons_succ]
      refine wpAnyH_take (i := 9) (v := .slice xo (t - f) c') rfl (by kernel_rfl) (by kernel_rfl) (by kernel_rfl) (fun _ _ _ h => h) (Or.inl ⟨by rfl, fun w hSw => by obtain ⟨s1, s2⟩ := hSw; go_simp⟩) hS ?_
      simp only [Act.put, List.getElem_toArray, List.getElem_cons_succ, List.getElem_cons_zero, List.setIfInBounds_toArray, List.set_cons_zero, List.set_cons_succ]
      have q0 : wr.drew.cell? ⟨w.heap.size + 1 + 1, 3, none⟩ = some v := HC.out.drew.q3
      refine wpAnyH_ready (rs := [1, 10]) (by kernel_rfl) (by simp) ?_
      refine AllReadyH.cons rfl (fun K hK => ?_) ?_
      · go_simp
        refine hK.out _ _ hS (fun hSa => ?_)
        clear hK K
        refine wpAnyH_ready (rs := [10]) (by kernel_rfl) (by simp) ?_
        refine AllReadyH.cons rfl (fun K hK => ?_) AllReadyH.nil
        refine step_append_src wr.drew rfl (.const noS) (.tmp 32) 45 rfl (w.heap.size + 3) 3 i3 (.int .i64 0) 8 Try.underlying45 H3.out.1 H3.out.2.1 H3.out.2.2.1 H3.out.2.2.2 rfl noS 0 [] rfl (World.ownsRow_nil _ _ _ _) xo (t - f) c' (intsC cl) rfl HX0.out (by rw [intsC_length]; exact HCU.out) (HNW.out _ HC.out.drew.below) (intsC_one _) (by simp only [maxLen]; omega) (by omega) HC.out.drew.size ?_
        intro u w5 ho5 hg5 hb5
        obtain ⟨ua, un, uc, rfl⟩ := owns_shape ho5.out
        have C5 : Hid (Ct w p (some ⟨b, off, none⟩) cap v vs xs w5) := HC.out.drew.next (below_of_grown hg5.out)
        have q5 := C5.out.q3
        refine hK.out _ _ ⟨C5.out.c3, HCL.out _ C5.out.below⟩ (fun hS5 => ?_)
        clear hK K
        refine wpAnyH_ready (rs := [11]) (by kernel_rfl) (by simp) ?_
        refine AllReadyH.cons rfl (fun K hK => ?_) AllReadyH.nil
        go_simp
        have C6 : Hid (Ct w p (some ⟨b, off, none⟩) cap v vs xs (w5.alloc (.cells #[.slice ua un uc] 45))) := C5.out.next ((Below.refl _ _).alloc (Nat.le_refl _) _)
        have q6 := C6.out.q3
        refine hK.out _ _ ⟨C6.out.c3, HCL.out _ C6.out.below⟩ (fun hS6 => ?_)
        clear hK K
        refine wpAnyH_ready (rs := [12]) (by kernel_rfl) (by simp) ?_
        refine AllReadyH.cons rfl (fun K hK => ?_) AllReadyH.nil
        refine step_append_src _ rfl (.tmp 24) (.tmp 34) 22 rfl (w.heap.size + 3) 45 iI noS 24 Try.underlying22 HI.out.1 HI.out.2.1 HI.out.2.2.1 HI.out.2.2.2 rfl v xs.length vs rfl C6.out.mat.outer (some ⟨w5.heap.size, 0, none⟩) 1 1 [.slice ua un uc] rfl (fun q => (by cases q)) rfl (fun ad q j x hj => one_cell q hj) (owns_one ho5.out) (by have := HXL.out; simp only [maxLen]; omega) (by have := HXL.out; omega) C6.out.size ?_
        intro v7 w7 ho7 hg7 hb7
        obtain ⟨va, vn, vc, rfl⟩ := owns_shape ho7.out
        obtain ⟨g1, g2, g3, g4, g5⟩ := C6.out.grown hg7.out
        have q7 : w7.cell? ⟨w.heap.size + 1 + 1, 3, none⟩ = some v := by rw [cell_of_row _ _ _ _ _ _ g3]; rfl
        have z7 : w7.frozen? ⟨w.heap.size + 1 + 1, 3, none⟩ = false := by simp [World.frozen?, g3]
        skip
        have C8 : Hid (Ct w p (some ⟨b, off, none⟩) cap (.slice va vn vc) (vs ++ [.slice ua un uc]) (xs ++ [cl]) (w7.setCell ⟨w.heap.size + 1 + 1, 3, none⟩ (.slice va vn vc))) := C6.out.push (owns_len (owns_below ho5.out ((Below.refl _ _).alloc (Nat.le_refl _) _)) HCU.out) (fun k hk j hj => new_apart hb5.out hk ((HC.out.drew.mat.inner j hj))) (fun k hk => new_apart hb5.out hk HC.out.drew.mat.outer) ho7.out hg7.out hb7.out
        refine hK.out _ _ ⟨by rw [cell_of_row _ _ _ _ _ _ g1]; rfl, HCL.out _ g5⟩ (fun hS7 => ?_)
        clear hK K g1 g2 g3 g4 g5
        refine wpAnyH_take (i := 13) (v := .pointer (some ⟨w.heap.size + 1 + 1, 3, none⟩)) rfl (by kernel_rfl) (by kernel_rfl) (by kernel_rfl) (fun _ _ _ h => h) (Or.inl ⟨by rfl, fun w hSw => by obtain ⟨s1, s2⟩ := hSw; go_simp⟩) hS7 ?_
        simp only [Act.put, List.getElem_toArray, List.getElem_cons_succ, List.getElem_cons_zero, List.setIfInBounds_toArray, List.set_cons_zero, List.set_cons_succ]
        refine wpAnyH_ready (rs := [14]) (by kernel_rfl) (by simp) ?_
        refine AllReadyH.cons rfl (fun K hK => ?_) AllReadyH.nil
        go_simp
        refine hK.out _ _ ⟨C8.out.c3, HCL.out _ C8.out.below⟩ (fun hS8 => ?_)
        refine wpAnyH_done (by kernel_rfl) ?_ _
        clear hK K
        go_wp2_with fail
        go_roundw
        case rel => exact ⟨i + 1, by omega, by go_num, _, vs ++ [.slice ua un uc], by rw [HTS.out]; exact C8.out⟩
        case measure => simp [intOf]; omega
      · refine AllReadyH.cons rfl (fun K hK => ?_) AllReadyH.nil
        refine step_append_src wr.drew rfl (.const noS) (.tmp 32) 45 rfl (w.heap.size + 3) 3 i3 (.int .i64 0) 8 Try.underlying45 H3.out.1 H3.out.2.1 H3.out.2.2.1 H3.out.2.2.2 rfl noS 0 [] rfl (World.ownsRow_nil _ _ _ _) xo (t - f) c' (intsC cl) rfl HX0.out (by rw [intsC_length]; exact HCU.out) (HNW.out _ HC.out.drew.below) (intsC_one _) (by simp only [maxLen]; omega) (by omega) HC.out.drew.size ?_
        intro u w5 ho5 hg5 hb5
        obtain ⟨ua, un, uc, rfl⟩ := owns_shape ho5.out
        have C5 : Hid (Ct w p (some ⟨b, off, none⟩) cap v vs xs w5) := HC.out.drew.next (below_of_grown hg5.out)
        have q5 := C5.out.q3
        refine hK.out _ _ ⟨C5.out.c3, HCL.out _ C5.out.below⟩ (fun hS5 => ?_)
        clear hK K
        refine wpAnyH_ready (rs := [1, 11]) (by kernel_rfl) (by simp) ?_
        refine AllReadyH.cons rfl (fun K hK => ?_) ?_
        · go_simp
          refine hK.out _ _ hS5 (fun hSa => ?_)
          clear hK K
          refine wpAnyH_ready (rs := [11]) (by kernel_rfl) (by simp) ?_
          refine AllReadyH.cons rfl (fun K hK => ?_) AllReadyH.nil
          go_simp
          have C6 : Hid (Ct w p (some ⟨b, off, none⟩) cap v vs xs (w5.alloc (.cells #[.slice ua un uc] 45))) := C5.out.next ((Below.refl _ _).alloc (Nat.le_refl _) _)
          have q6 := C6.out.q3
          refine hK.out _ _ ⟨C6.out.c3, HCL.out _ C6.out.below⟩ (fun hS6 => ?_)
          clear hK K
          refine wpAnyH_ready (rs := [12]) (by kernel_rfl) (by simp) ?_
          refine AllReadyH.cons rfl (fun K hK => ?_) AllReadyH.nil
          refine step_append_src _ rfl (.tmp 24) (.tmp 34) 22 rfl (w.heap.size + 3) 45 iI noS 24 Try.underlying22 HI.out.1 HI.out.2.1 HI.out.2.2.1 HI.out.2.2.2 rfl v xs.length vs rfl C6.out.mat.outer (some ⟨w5.heap.size, 0, none⟩) 1 1 [.slice ua un uc] rfl (fun q => (by cases q)) rfl (fun ad q j x hj => one_cell q hj) (owns_one ho5.out) (by have := HXL.out; simp only [maxLen]; omega) (by have := HXL.out; omega) C6.out.size ?_
          intro v7 w7 ho7 hg7 hb7
          obtain ⟨va, vn, vc, rfl⟩ := owns_shape ho7.out
          obtain ⟨g1, g2, g3, g4, g5⟩ := C6.out.grown hg7.out
          have q7 : w7.cell? ⟨w.heap.size + 1 + 1, 3, none⟩ = some v := by rw [cell_of_row _ _ _ _ _ _ g3]; rfl
          have z7 : w7.frozen? ⟨w.heap.size + 1 + 1, 3, none⟩ = false := by simp [World.frozen?, g3]
          skip
          have C8 : Hid (Ct w p (some ⟨b, off, none⟩) cap (.slice va vn vc) (vs ++ [.slice ua un uc]) (xs ++ [cl]) (w7.setCell ⟨w.heap.size + 1 + 1, 3, none⟩ (.slice va vn vc))) := C6.out.push (owns_len (owns_below ho5.out ((Below.refl _ _).alloc (Nat.le_refl _) _)) HCU.out) (fun k hk j hj => new_apart hb5.out hk ((HC.out.drew.mat.inner j hj))) (fun k hk => new_apart hb5.out hk HC.out.drew.mat.outer) ho7.out hg7.out hb7.out
          refine hK.out _ _ ⟨by rw [cell_of_row _ _ _ _ _ _ g1]; rfl, HCL.out _ g5⟩ (fun hS7 => ?_)
          clear hK K g1 g2 g3 g4 g5
          refine wpAnyH_take (i := 13) (v := .pointer (some ⟨w.heap.size + 1 + 1, 3, none⟩)) rfl (by kernel_rfl) (by kernel_rfl) (by kernel_rfl) (fun _ _ _ h => h) (Or.inl ⟨by rfl, fun w hSw => by obtain ⟨s1, s2⟩ := hSw; go_simp⟩) hS7 ?_
          simp only [Act.put, List.getElem_toArray, List.getElem_cons_succ, List.getElem_cons_zero, List.setIfInBounds_toArray, List.set_cons_zero, List.set_cons_succ]
          refine wpAnyH_ready (rs := [14]) (by kernel_rfl) (by simp) ?_
          refine AllReadyH.cons rfl (fun K hK => ?_) AllReadyH.nil
          go_simp
          refine hK.out _ _ ⟨C8.out.c3, HCL.out _ C8.out.below⟩ (fun hS8 => ?_)
          refine wpAnyH_done (by kernel_rfl) ?_ _
          clear hK K
          go_wp2_with fail
          go_roundw
          case rel => exact ⟨i + 1, by omega, by go_num, _, vs ++ [.slice ua un uc], by rw [HTS.out]; exact C8.out⟩
          case measure => simp [intOf]; omega
        · refine AllReadyH.cons rfl (fun K hK => ?_) AllReadyH.nil
          go_simp
          have C6 : Hid (Ct w p (some ⟨b, off, none⟩) cap v vs xs (w5.alloc (.cells #[.slice ua un uc] 45))) := C5.out.next ((Below.refl _ _).alloc (Nat.le_refl _) _)
          have q6 := C6.out.q3
          refine hK.out _ _ ⟨C6.out.c3, HCL.out _ C6.out.below⟩ (fun hS6 => ?_)
          clear hK K
          refine wpAnyH_ready (rs := [1]) (by kernel_rfl) (by simp) ?_
          refine AllReadyH.cons rfl (fun K hK => ?_) AllReadyH.nil
          go_simp
          refine hK.out _ _ hS6 (fun hSa => ?_)
          clear hK K
          refine wpAnyH_ready (rs := [12]) (by kernel_rfl) (by simp) ?_
          refine AllReadyH.cons rfl (fun K hK => ?_) AllReadyH.nil
          refine step_append_src _ rfl (.tmp 24) (.tmp 34) 22 rfl (w.heap.size + 3) 45 iI noS 24 Try.underlying22 HI.out.1 HI.out.2.1 HI.out.2.2.1 HI.out.2.2.2 rfl v xs.length vs rfl C6.out.mat.outer (some ⟨w5.heap.size, 0, none⟩) 1 1 [.slice ua un uc] rfl (fun q => (by cases q)) rfl (fun ad q j x hj => one_cell q hj) (owns_one ho5.out) (by have := HXL.out; simp only [maxLen]; omega) (by have := HXL.out; omega) C6.out.size ?_
          intro v7 w7 ho7 hg7 hb7
          obtain ⟨va, vn, vc, rfl⟩ := owns_shape ho7.out
          obtain ⟨g1, g2, g3, g4, g5⟩ := C6.out.grown hg7.out
          have q7 : w7.cell? ⟨w.heap.size + 1 + 1, 3, none⟩ = some v := by rw [cell_of_row _ _ _ _ _ _ g3]; rfl
          have z7 : w7.frozen? ⟨w.heap.size + 1 + 1, 3, none⟩ = false := by simp [World.frozen?, g3]
          skip
          have C8 : Hid (Ct w p (some ⟨b, off, none⟩) cap (.slice va vn vc) (vs ++ [.slice ua un uc]) (xs ++ [cl]) (w7.setCell ⟨w.heap.size + 1 + 1, 3, none⟩ (.slice va vn vc))) := C6.out.push (owns_len (owns_below ho5.out ((Below.refl _ _).alloc (Nat.le_refl _) _)) HCU.out) (fun k hk j hj => new_apart hb5.out hk ((HC.out.drew.mat.inner j hj))) (fun k hk => new_apart hb5.out hk HC.out.drew.mat.outer) ho7.out hg7.out hb7.out
          refine hK.out _ _ ⟨by rw [cell_of_row _ _ _ _ _ _ g1]; rfl, HCL.out _ g5⟩ (fun hS7 => ?_)
          clear hK K g1 g2 g3 g4 g5
          refine wpAnyH_take (i := 13) (v := .pointer (some ⟨w.heap.size + 1 + 1, 3, none⟩)) rfl (by kernel_rfl) (by kernel_rfl) (by kernel_rfl) (fun _ _ _ h => h) (Or.inl ⟨by rfl, fun w hSw => by obtain ⟨s1, s2⟩ := hSw; go_simp⟩) hS7 ?_
          simp only [Act.put, List.getElem_toArray, List.getElem_cons_succ, List.getElem_cons_zero, List.setIfInBounds_toArray, List.set_cons_zero, List.set_cons_succ]
          refine wpAnyH_ready (rs := [14]) (by kernel_rfl) (by simp) ?_
          refine AllReadyH.cons rfl (fun K hK => ?_) AllReadyH.nil
          go_simp
          refine hK.out _ _ ⟨C8.out.c3, HCL.out _ C8.out.below⟩ (fun hS8 => ?_)
          refine wpAnyH_done (by kernel_rfl) ?_ _
          clear hK K
          go_wp2_with fail
          go_roundw
          case rel => exact ⟨i + 1, by omega, by go_num, _, vs ++ [.slice ua un uc], by rw [HTS.out]; exact C8.out⟩
          case measure => simp [intOf]; omega
    · have hie : i = p.pl.length := by omega
      have HXS : Hid ((p.pl.take i).map (cutL f t) = (cutP p f t).pl) := by
        show _ = _
        rw [hie, List.take_length]
        rfl
      obtain ⟨ao', cap', hv', hrows, hfresh⟩ := HC.out.mat.rows (by rw [List.length_map, List.length_take]; omega) (fun k hk => by
        rw [List.length_map, List.length_take] at hk
        have hkp : k < p.pl.length := by omega
        have e : ((p.pl.take i).map (cutL f t)).getD k [] = cutL f t (p.pl.getD k []) := by
          rw [hie, List.take_length]
          exact getD_map_cut p.pl f t k hkp
        rw [e]
        obtain ⟨_, _, _, _, _, _, _, hin⟩ := HR.out.at k hkp
        have := HN.out k hkp
        exact ⟨by rw [cutL_length f t _ hft (by omega)]; omega, fun n hn => hin.num n (cutL_mem f t _ n hn)⟩)
      rw [HXS.out] at hv' hrows hfresh
      have HRW : Hid (RowsAt wr ao' (cutP p f t).pl) := hrows
      have HFR : Hid (Fresh (w.heap.size + 3) wr ao' (cutP p f t).pl) := hfresh
      have e0 : wr.cell? ⟨w.heap.size + 1 + 1, 0, none⟩ = some (.int .i64 p.rate) := by rw [cell_of_row _ _ _ _ _ _ HC.out.q]; rfl
      have e1 : wr.cell? ⟨w.heap.size + 1 + 1, 1, none⟩ = some (.int .i64 p.ch) := by rw [cell_of_row _ _ _ _ _ _ HC.out.q]; rfl
      have e2 : wr.cell? ⟨w.heap.size + 1 + 1, 2, none⟩ = some (.int .i64 p.wd) := by rw [cell_of_row _ _ _ _ _ _ HC.out.q]; rfl
      have e3 : wr.cell? ⟨w.heap.size + 1 + 1, 3, none⟩ = some (.slice ao' (cutP p f t).pl.length cap') := by rw [cell_of_row _ _ _ _ _ _ HC.out.q, hv']; rfl
      have HRS : Hid (wr.heap[w.heap.size + 1]? = some (.cells zeroP 24 (0, 0))) := HC.out.res
      have HBL : Hid (Below w.heap.size w wr) := HC.out.below
      have r0 : wr.cell? ⟨w.heap.size + 1, 0, none⟩ = some (.int .i64 0) := by rw [cell_of_row _ _ _ _ _ _ HRS.out]; rfl
      have r1 : wr.cell? ⟨w.heap.size + 1, 1, none⟩ = some (.int .i64 0) := by rw [cell_of_row _ _ _ _ _ _ HRS.out]; rfl
      have r2 : wr.cell? ⟨w.heap.size + 1, 2, none⟩ = some (.int .i64 0) := by rw [cell_of_row _ _ _ _ _ _ HRS.out]; rfl
      have r3 : wr.cell? ⟨w.heap.size + 1, 3, none⟩ = some (.slice none 0 0) := by rw [cell_of_row _ _ _ _ _ _ HRS.out]; rfl
      have hrs := HRS.out
      have z0 : wr.frozen? ⟨w.heap.size + 1, 0, none⟩ = false := by simp [World.frozen?, hrs]
      have z1 : wr.frozen? ⟨w.heap.size + 1, 1, none⟩ = false := by simp [World.frozen?, hrs]
      have z2 : wr.frozen? ⟨w.heap.size + 1, 2, none⟩ = false := by simp [World.frozen?, hrs]
      have z3 : wr.frozen? ⟨w.heap.size + 1, 3, none⟩ = false := by simp [World.frozen?, hrs]
      have HMT : Hid (OwnMat 45 (w.heap.size + 3) wr v vs (cutP p f t).pl) := by
        have := HC.out.mat
        rwa [HXS.out] at this
      have HVV : Hid (v = .slice ao' (cutP p f t).pl.length cap') := hv'
      have HLB : Hid (∀ k, k < (cutP p f t).pl.length → ((cutP p f t).pl.getD k []).length ≤ 17592186044415 ∧ ∀ n ∈ (cutP p f t).pl.getD k [], -9223372036854775808 ≤ n ∧ n ≤ 9223372036854775807) := fun k hk => by
        obtain ⟨_, _, _, _, _, h1, _, h2⟩ := hrows.at k hk
        exact ⟨h1, h2.num⟩
      have HPL : Hid ((cutP p f t).pl.length ≤ 5864062014805) := hrows.len
      have HQ : Hid (pcmC (cutP p f t) ao' cap' = #[.int .i64 p.rate, .int .i64 p.ch, .int .i64 p.wd, .slice ao' (cutP p f t).pl.length cap']) := rfl
      clear hv' hrows hfresh hrs hie HXS HC HRW HFR
      generalize hcp : cutP p f t = cp at *
      have HCP : Hid (cutP p f t = cp) := hcp
      clear hcp
      go_wp2
      generalize hwf : (((wr.setCell ⟨w.heap.size + 1, 0, none⟩ (.int .i64 p.rate)).setCell ⟨w.heap.size + 1, 1, none⟩ (.int .i64 p.ch)).setCell ⟨w.heap.size + 1, 2, none⟩ (.int .i64 p.wd)).setCell ⟨w.heap.size + 1, 3, none⟩ (.slice ao' cp.pl.length cap') = wf
      have hrow : wf.heap[w.heap.size + 1]? = some (.cells (pcmC cp ao' cap') 24 (0, 0)) := by
        rw [← hwf, block_set _ _ _ _ _ _ (block_set _ _ _ _ _ _ (block_set _ _ _ _ _ _ (block_set _ _ _ _ _ _ HRS.out))), HQ.out]
        rfl
      have hbel : Below w.heap.size w wf := by
        rw [← hwf]
        exact (((HBL.out.setCell (by simp) _).setCell (by simp) _).setCell (by simp) _).setCell (by simp) _
      have hmat : OwnMat 45 (w.heap.size + 3) wf v vs cp.pl := by
        rw [← hwf]
        exact (((HMT.out.setOther (by simp) _).setOther (by simp) _).setOther (by simp) _).setOther (by simp) _
      obtain ⟨ao2, cap2, hv2, hrows2, hfr2⟩ := hmat.rows HPL.out HLB.out
      rw [HVV.out] at hv2
      cases hv2
      refine bodyPost_ret (v := pcmV cp ao' cap') ?_ rfl ⟨ao', cap', by rw [HCP.out], by rw [HCP.out]; exact hrows2, by rw [HCP.out]; exact hfr2.mono (Nat.le_add_right _ _), hbel, vs, by rw [HCP.out, ← HVV.out]; exact hmat⟩
      rw [results_one rfl]
      have hld := run_loadVar_row (P := Try.prog) wf (w.heap.size + 1) 24 24 (pcmC cp ao' cap') (0, 0) _ hrow Try.underlying24 rfl infoP
      simp [asAddr, Result.andThen, hld]
theorem rcut_spec (p : Pcm) (ao : Option Addr) (cap : Nat) (f t n : Nat) (w : World) (hr : RowsAt w ao p.pl) (h8 : p.pl.length ≤ 8) (hn : ∀ i, i < p.pl.length → (p.pl.getD i []).length = n) (hn20 : n ≤ 1048576) (hft : f ≤ t) (htn : t ≤ n) :
    Calls Try.prog 48 #[pcmV p ao cap, .int .i64 (f : Int), .int .i64 (t : Int)] w fun e w' => ∃ ao' cap', e = .returned (pcmV (cutP p f t) ao' cap') ∧ RowsAt w' ao' (cutP p f t).pl ∧ Fresh w.heap.size w' ao' (cutP p f t).pl ∧ Below w.heap.size w w' := by
  refine (rcut_own p ao cap f t n w hr h8 hn hn20 hft htn).mono ?_
  rintro e w' ⟨ao', cap', h1, h2, h3, h4, _⟩
  exact ⟨ao', cap', h1, h2, h3, h4⟩

end Go.Proofs.Ytolmijpecomkcaa
