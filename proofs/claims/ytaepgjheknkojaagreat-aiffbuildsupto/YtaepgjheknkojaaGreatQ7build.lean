/- Own text: the walk of Build (aiff). -/
import Derived.Test.YtaepgjheknkojaaGreatG33x
import Derived.Test.YtaepgjheknkojaaGreatG35x
import Derived.Test.YtaepgjheknkojaaGreatQ7parse
import Derived.Test.YtaepgjheknkojaaGreatQ5pack3
import Derived.Deep.CutRange
import Derived.Deep.RegionWith
namespace Go.Proofs.YtaepgjheknkojaaGreat
open Go.RowKit
set_option linter.unusedSimpArgs false
set_option linter.unusedVariables false

theorem bld_res {wf : World} {b4 b5 : Nat} {T : ByteArray} {E : Int} (h4 : Box b4 #[.string T] 9 wf) (h5 : Box b5 #[.int .i64 E] 28 wf) (tmps : Array Value) (q4 : tmps.getD 4 undef = .pointer (some ⟨b4, 0, none⟩)) (q5 : tmps.getD 5 undef = .pointer (some ⟨b5, 0, none⟩)) :
    (results Tryz.f11 tmps).run Tryz.prog wf = .ok (.tuple #[.string T, .int .i64 E]) wf := by
  have c4 := h4.c 0 _ rfl
  have c5 := h5.c 0 _ rfl
  have hr : Tryz.f11.results = #[.cell 4 9, .cell 5 28] := rfl
  have e : (results Tryz.f11 tmps).run Tryz.prog wf = ((asAddr (tmps.getD 4 undef)).run Tryz.prog wf).andThen fun a w₁ => ((loadVar 9 a).run Tryz.prog w₁).andThen fun x w₂ => ((asAddr (tmps.getD 5 undef)).run Tryz.prog w₂).andThen fun a2 w₃ => ((loadVar 28 a2).run Tryz.prog w₃).andThen fun y w₄ => .ok (.tuple #[x, y]) w₄ := by
    simp only [results, hr]
    simp [Sem.run_bind, Result.andThen]
  rw [e, q4, q5]
  go_simp
/-- Build's boxes ahead of the draft's. -/
structure Jb0 (w0 : World) (dp da : Array Value) (en : Int) (w : World) : Prop where
  pb : Box w0.heap.size dp 24 w
  ab : Box (w0.heap.size + 1) da 27 w
  sb : Box (w0.heap.size + 2) #[.string ⟨#[]⟩] 9 w
  eb : Box (w0.heap.size + 3) #[.int .i64 en] 28 w
  below : Below w0.heap.size w0 w
theorem Jb0.next {w0 w w1 : World} {dp da : Array Value} {en : Int} (h : Jb0 w0 dp da en w) (hB : Below w.heap.size w w1) : Jb0 w0 dp da en w1 := ⟨h.pb.next hB, h.ab.next hB, h.sb.next hB, h.eb.next hB, below_on h.below hB⟩
theorem Jb0.new (w : World) (dp da : Array Value) : Jb0 w dp da 0 ((((w.alloc (.cells dp 24)).alloc (.cells da 27)).alloc (.cells #[.string ⟨#[]⟩] 9)).alloc (.cells #[.int .i64 0] 28)) := by
  have h1 : (w.alloc (.cells dp 24)).heap.size = w.heap.size + 1 := by simp
  have h2 : ((w.alloc (.cells dp 24)).alloc (.cells da 27)).heap.size = w.heap.size + 2 := by simp
  have h3 : (((w.alloc (.cells dp 24)).alloc (.cells da 27)).alloc (.cells #[.string ⟨#[]⟩] 9)).heap.size = w.heap.size + 3 := by simp
  refine ⟨(((Box.new w _ _).next (belA _ _)).next (belA _ _)).next (belA _ _), ?_, ?_, ?_, below_on (below_on (below_on (belA _ _) (belA _ _)) (belA _ _)) (belA _ _)⟩
  · rw [← h1]
    exact ((Box.new _ _ _).next (belA _ _)).next (belA _ _)
  · rw [← h2]
    exact (Box.new _ _ _).next (belA _ _)
  · rw [← h3]
    exact Box.new _ _ _
theorem Jb0.draft {w0 w : World} {dp da : Array Value} {en : Int} (h : Jb0 w0 dp da en w) (d : Array Value) : Jb7 w0 dp da en w.heap.size d (w.alloc (.cells d 65)) :=
  ⟨h.pb.next (belA _ _), h.ab.next (belA _ _), h.sb.next (belA _ _), h.eb.next (belA _ _), Box.new _ _ _, h.eb.lt, below_on h.below (belA _ _)⟩
/-- Chunks whose texts a machine can hold, with samples behind them. -/
def FairT (l : List Chk) : Prop := ∀ c ∈ l, c.id.size ≤ 140737488351232 ∧ c.body.size ≤ 100000000000000
theorem FairT.fair {l : List Chk} (h : FairT l) : FairL l := fun c hc => ⟨(h c hc).1, by have := (h c hc).2; omega⟩
theorem fil_len (l : List Chk) (i : Int) (d : ByteArray) : (filL l i d).length = l.length := by
  unfold filL
  split
  · rfl
  · rw [List.length_set]
theorem fair_fil (l : List Chk) (i : Int) (d : ByteArray) (h : FairT l) (hd : d.size ≤ 33554432) : FairL (filL l i d) := by
  unfold filL
  split
  · exact h.fair
  · intro c hc
    rcases List.mem_or_eq_of_mem_set hc with q | q
    · exact h.fair c q
    · subst q
      unfold filC7 atC
      by_cases hi : i.toNat < l.length
      · have hm : l.getD i.toNat noC ∈ l := by
          rw [List.getD_eq_getElem?_getD, List.getElem?_eq_getElem hi]
          exact List.getElem_mem hi
        have := h _ hm
        refine ⟨this.1, ?_⟩
        show (_ ++ d).size ≤ _
        rw [ByteArray.size_append]
        omega
      · rw [List.set_eq_of_length_le (by omega)] at hc
        have := h.fair _ hc
        exact this
theorem lay_small (L : List Chk) (h : roomB L = true) : (layT L true).size ≤ 140737488355328 := by
  unfold layT
  split
  · rename_i q
    have hid : ∀ c ∈ L, idB c.id = true := fun c hc => by
      obtain ⟨i, hi⟩ := List.mem_iff_getElem?.1 hc
      have := (layAll_iff L).1 q.2 i c hi
      rw [layOk_eq] at this
      exact (Bool.and_eq_true_iff.1 this).1
    have h1 := layZ_len (zB true) L hid
    have h2 := sizeL_room L h
    rw [textOf_size, lay_link L true q.2]
    omega
  · exact Nat.zero_le _
theorem cl_no (f : ByteArray) (s : ByteArray) : clT f false s = ⟨#[]⟩ ∧ clE false s = 60 := ⟨rfl, rfl⟩
theorem cl_room (f : ByteArray) (L : List Chk) : (laidB L = true → ∃ bl s, dftL f L = dftC f bl s ∧ clT f bl s = headT7 f (12 + ((layT L true).size : Int)) ++ layT L true ∧ clE bl s = 0 ∧ s.size ≤ 140737488355328) ∧ (laidB L = false → ∃ bl s, dftL f L = dftC f bl s ∧ clT f bl s = ⟨#[]⟩ ∧ clE bl s = 60 ∧ s.size ≤ 140737488355328) := by
  unfold laidB dftL
  cases hr : roomB L
  · refine ⟨fun h => (by simp at h), fun _ => ⟨false, ⟨#[]⟩, rfl, rfl, rfl, Nat.zero_le _⟩⟩
  · cases he : layE L == 0
    · refine ⟨fun h => (by simp at h), fun _ => ⟨false, layT L true, rfl, rfl, rfl, lay_small L hr⟩⟩
    · cases hd : decide (67108864 < 12 + ((layT L true).size : Int))
      · refine ⟨fun _ => ⟨true, layT L true, rfl, ?_, ?_, ?_⟩, fun h => (by simp at h)⟩
        · unfold clT clB
          rw [hd]
          rfl
        · unfold clE clB
          rw [hd]
          rfl
        · have := of_decide_eq_false hd
          omega
      · refine ⟨fun h => (by simp at h), fun _ => ⟨true, layT L true, rfl, ?_, ?_, lay_small L hr⟩⟩
        · unfold clT clB
          rw [hd]
          rfl
        · unfold clE clB
          rw [hd]
          rfl
theorem leaves_tmps {P : Program} {fn : Func} {t t' : Array Value} {R : Ending → World → Prop} (hres : ∀ w, (results fn t).run P w = (results fn t').run P w) : ∀ (ds : List Deferred) (u : FrameMode) (w : World), Leaves P fn t R ds u w → Leaves P fn t' R ds u w := by
  intro ds
  induction ds with
  | nil =>
    intro u w h
    cases u with
    | returning =>
      obtain ⟨v, h1, h2⟩ := h
      exact ⟨v, by rw [← hres]; exact h1, h2⟩
    | panicking c => exact h
    | run => exact h
  | cons d ds ih =>
    intro u w h
    obtain ⟨hu, fv, cap, f, args, h1, h2, h3⟩ := h
    refine ⟨hu, fv, cap, f, args, h1, h2, h3.mono fun e u' w' q => ?_⟩
    cases e with
    | returned v => exact ih _ _ q
    | panicked c => exact ih _ _ q
    | outgrown => exact q
/-- A slot that no result lies in plays no part at the door. -/
theorem pan7 {K : Act → World → Prop} {R : Ending → World → Prop} {d : Tmp} {v : Value} {ch : List PanicEntry} {a : Act} {w : World} (h4 : d ≠ 4) (h5 : d ≠ 5) (h : Exit.then K (bodyPostD Tryz.prog Tryz.f11 R) (.panic ch) (a.put (some d) v) w) : Exit.then K (bodyPostD Tryz.prog Tryz.f11 R) (.panic ch) a w := by
  have h : Leaves Tryz.prog Tryz.f11 (a.tmps.setIfInBounds d v) R a.defers (.panicking ch) w := h
  show Leaves Tryz.prog Tryz.f11 a.tmps R a.defers (.panicking ch) w
  refine leaves_tmps (fun w => ?_) _ _ _ h
  have hr : Tryz.f11.results = #[.cell 4 9, .cell 5 28] := rfl
  have e4 : (a.tmps.setIfInBounds d v).getD 4 undef = a.tmps.getD 4 undef := by
    simp only [Array.getD_eq_getD_getElem?, Array.getElem?_setIfInBounds, if_neg h4]
  have e5 : (a.tmps.setIfInBounds d v).getD 5 undef = a.tmps.getD 5 undef := by
    simp only [Array.getD_eq_getD_getElem?, Array.getElem?_setIfInBounds, if_neg h5]
  simp only [results, hr]
  simp [Sem.run_bind, Result.andThen, ← Array.getD_eq_getD_getElem?, e4, e5]
/-- At the door: the deferred call closes the draft. -/
theorem leave7 {w0 w : World} {dp da : Array Value} {en : Int} {Q : Nat} {f : ByteArray} {bl : Bool} {s : ByteArray} {tmps : Array Value} {R : Ending → World → Prop} (h : Jb7 w0 dp da en Q (dftC f bl s) w) (hf : f.size ≤ 140737488355328) (hs : s.size ≤ 140737488355328)
    (q4 : tmps.getD 4 undef = .pointer (some ⟨w0.heap.size + 2, 0, none⟩)) (q5 : tmps.getD 5 undef = .pointer (some ⟨w0.heap.size + 3, 0, none⟩)) (hR : ∀ w', Below w0.heap.size w0 w' → R (.returned (.tuple #[.string (clT f bl s), .int .i64 (clE bl s)])) w') :
    Leaves Tryz.prog Tryz.f11 tmps R [{ target := .fn (.func 26) #[.pointer (some ⟨Q, 0, none⟩), .pointer (some ⟨w0.heap.size + 2, 0, none⟩), .pointer (some ⟨w0.heap.size + 3, 0, none⟩)], args := #[] }] .returning w := by
  refine leaves_cons (f := 26) (args := #[.pointer (some ⟨Q, 0, none⟩), .pointer (some ⟨w0.heap.size + 2, 0, none⟩), .pointer (some ⟨w0.heap.size + 3, 0, none⟩)]) (by simp) (by simp [go_sem]) ?_
  refine (door7 w0 dp da en Q f bl s .returning w h hf hs).mono ?_
  rintro e u' w' ⟨rfl, rfl, h4, h5, hB⟩
  show ∃ v, _ ∧ _
  exact ⟨_, bld_res h4 h5 tmps q4 q5, hR w' hB⟩

/-- And the box of what is known of the file. -/
structure Jf7 (w0 : World) (dp da : Array Value) (en : Int) (Q : Nat) (dd : Array Value) (FQ : Nat) (x : Com) (i : Int) (w : World) : Prop where
  b : Jb7 w0 dp da en Q dd w
  fb : Box FQ (filC x i) 70 w
  lo : Q < FQ
theorem Jf7.next {w0 w w1 : World} {dp da dd : Array Value} {en : Int} {Q FQ : Nat} {x : Com} {i : Int} (h : Jf7 w0 dp da en Q dd FQ x i w) (hB : Below w.heap.size w w1) : Jf7 w0 dp da en Q dd FQ x i w1 := ⟨h.b.next hB, h.fb.next hB, h.lo⟩
theorem Jf7.setE {w0 w : World} {dp da dd : Array Value} {en : Int} {Q FQ : Nat} {x : Com} {i : Int} (h : Jf7 w0 dp da en Q dd FQ x i w) (n : Int) : Jf7 w0 dp da n Q dd FQ x i (w.setCell ⟨w0.heap.size + 3, 0, none⟩ (.int .i64 n)) :=
  ⟨h.b.setE n, h.fb.other (a := ⟨w0.heap.size + 3, 0, none⟩) (by show FQ ≠ w0.heap.size + 3; have := h.b.lo; have := h.lo; omega) _, h.lo⟩
theorem pack_size (p : Pcm) (h : fitsN 2 p = 0) (big uns : Bool) : (pakN p big uns).size ≤ 33554432 := by
  have hc := (fits_parts7 p h).1
  obtain ⟨hh, hl, _⟩ := check_zero p hc
  obtain ⟨_, _, c1, c2, w1, w2, _⟩ := head_parts p hh
  unfold pakN
  rw [if_pos hc, textOf_size, packL_length]
  have hn := nby_range p.wd w1 w2
  have h1 : p.ch.toNat * nby p.wd ≤ 8 * 4 := Nat.mul_le_mul (by omega) hn.2.1
  have h2 : lenP p * (p.ch.toNat * nby p.wd) ≤ 1048576 * 32 := Nat.mul_le_mul hl h1
  omega

set_option maxRecDepth 20000 in
set_option maxHeartbeats 6400000 in
theorem Build7_no (p : Pcm) (po : Option Addr) (pc : Nat) (f : ByteArray) (l : List Chk) (ao : Option Addr) (cap : Nat) (w : World) (hr : RowsAt w po p.pl) (hE : fitsN 2 p ≠ 0) :
    Calls Tryz.prog 11 #[pcmV p po pc, .agg #[.string f, .slice ao l.length cap]] w fun e w' => e = .returned (.tuple #[.string (b7T p f l), .int .i64 (b7E p f l)]) ∧ Below w.heap.size w w' := by
  have HJ : Hid (Jb0 w (pcmC p po pc) #[.string f, .slice ao l.length cap] 0 ((((w.alloc (.cells (pcmC p po pc) 24)).alloc (.cells #[.string f, .slice ao l.length cap] 27)).alloc (.cells #[.string ⟨#[]⟩] 9)).alloc (.cells #[.int .i64 0] 28))) := Jb0.new w _ _
  have kf := fits5_spec 2 p po pc ((((w.alloc (.cells (pcmC p po pc) 24)).alloc (.cells #[.string f, .slice ao l.length cap] 27)).alloc (.cells #[.string ⟨#[]⟩] 9)).alloc (.cells #[.int .i64 0] 28)) (hr.below HJ.out.below)
  have HE : Hid (b7E p f l = fitsN 2 p) := if_neg hE
  have HT : Hid (b7T p f l = ⟨#[]⟩) := by
    show _ = _
    unfold b7T
    rw [HE.out, if_neg hE]
  have hEb : (fitsN 2 p != 0) = true := by simpa using hE
  clear hr hE
  generalize fitsN 2 p = E at *
  have hmf : ∀ (fn : Fn) (first cap : Array Value) (w : World), (Instr.makeFunc fn first cap).run Tryz.prog w = .ok (.func fn first cap) w := fun _ _ _ _ => rfl
  go_enter_defers Tryz.func11, Tryz.ntmps11
  go_wp2_with fail
  refine kf.mono ?_
  rintro e w2 ⟨rfl, hB2⟩
  have HJ2 : Hid (Jb0 w (pcmC p po pc) #[.string f, .slice ao l.length cap] 0 w2) := HJ.out.next hB2
  clear kf hB2 HJ
  have e0 := HJ2.out.eb.c 0 _ rfl
  have ez := HJ2.out.eb.z 0
  have t0 := HJ2.out.sb.c 0 _ rfl
  have tz := HJ2.out.sb.z 0
  have HF : Hid (Box (w.heap.size + 2) #[.string ⟨#[]⟩] 9 ((w2.setCell ⟨w.heap.size + 2, 0, none⟩ (.string ⟨#[]⟩)).setCell ⟨w.heap.size + 3, 0, none⟩ (.int .i64 E)) ∧ Box (w.heap.size + 3) #[.int .i64 E] 28 ((w2.setCell ⟨w.heap.size + 2, 0, none⟩ (.string ⟨#[]⟩)).setCell ⟨w.heap.size + 3, 0, none⟩ (.int .i64 E)) ∧ Below w.heap.size w ((w2.setCell ⟨w.heap.size + 2, 0, none⟩ (.string ⟨#[]⟩)).setCell ⟨w.heap.size + 3, 0, none⟩ (.int .i64 E))) :=
    ⟨(HJ2.out.sb.set 0 _).other (a := ⟨w.heap.size + 3, 0, none⟩) (by show w.heap.size + 2 ≠ w.heap.size + 3; omega) _, (HJ2.out.eb.other (a := ⟨w.heap.size + 2, 0, none⟩) (by show w.heap.size + 3 ≠ w.heap.size + 2; omega) _).set 0 _, (HJ2.out.below.setCell (by show w.heap.size ≤ w.heap.size + 2; omega) _).setCell (by show w.heap.size ≤ w.heap.size + 3; omega) _⟩
  go_wp2_with fail
  exact ⟨_, bld_res HF.out.1 HF.out.2.1 _ rfl rfl, by rw [HE.out, HT.out], HF.out.2.2⟩

set_option maxRecDepth 20000 in
set_option maxHeartbeats 6400000 in
theorem Build7_yes (p : Pcm) (po : Option Addr) (pc : Nat) (f : ByteArray) (l : List Chk) (ao : Option Addr) (cap : Nat) (w : World) (hr : RowsAt w po p.pl) (hl : ChksAt w ao l) (hfl : FairT l) (hll : l.length ≤ 3500000000000) (hfz : f.size ≤ 140737488355328) (hE : fitsN 2 p = 0) :
    Calls Tryz.prog 11 #[pcmV p po pc, .agg #[.string f, .slice ao l.length cap]] w fun e w' => e = .returned (.tuple #[.string (b7T p f l), .int .i64 (b7E p f l)]) ∧ Below w.heap.size w w' := by
  have HJ : Hid (Jb0 w (pcmC p po pc) #[.string f, .slice ao l.length cap] 0 ((((w.alloc (.cells (pcmC p po pc) 24)).alloc (.cells #[.string f, .slice ao l.length cap] 27)).alloc (.cells #[.string ⟨#[]⟩] 9)).alloc (.cells #[.int .i64 0] 28))) := Jb0.new w _ _
  have kf := fits5_spec 2 p po pc ((((w.alloc (.cells (pcmC p po pc) 24)).alloc (.cells #[.string f, .slice ao l.length cap] 27)).alloc (.cells #[.string ⟨#[]⟩] 9)).alloc (.cells #[.int .i64 0] 28)) (hr.below HJ.out.below)
  have HE0 : Hid (b7E p f l = if ok7 p f l then 0 else 60) := if_pos hE
  have HT0 : Hid (b7T p f l = if b7E p f l = 0 then headT7 f (12 + ((layT (bl7 p f l) true).size : Int)) ++ layT (bl7 p f l) true else ⟨#[]⟩) := rfl
  have HOK : Hid (ok7 p f l = (lkE f l == 0 && (isOfB (lkX f l) p && (holdB l (lkI f l) (smp7 p (lkX f l)) && laidB (bl7 p f l))))) := rfl
  have HBL : Hid (bl7 p f l = filL l (lkI f l) (smp7 p (lkX f l))) := rfl
  have HR : Hid (RowsAt w po p.pl) := hr
  have HL : Hid (ChksAt w ao l) := hl
  have HFL : Hid (FairT l) := hfl
  have HF : Hid (f.size ≤ 140737488355328) := hfz
  have HPZ : Hid ((smp7 p (lkX f l)).size ≤ 33554432) := pack_size p hE _ _
  have HCK : Hid (checkN p = 0) := (fits_parts7 p hE).1
  have HLG : Hid (lkE f l = 0 → lkI f l = snI l ∧ GoodX (lkX f l)) := fun q => ⟨(lk_good q).2.2.2.1, (lk_good q).2.2.2.2⟩
  have KL : Hid (∀ wx, ChksAt wx ao l → Calls Tryz.prog 28 #[.agg #[.string f, .slice ao l.length cap]] wx fun e w' => e = .returned (.tuple #[.agg (filC (lkX f l) (lkI f l)), .int .i64 (lkE f l)]) ∧ Below wx.heap.size wx w') := fun wx hx => look7_spec f l ao cap wx hx (by omega) fun c hc => (HFL.out.fair c hc).2
  rw [hE] at kf
  clear hr hl hfl hfz hE
  have hmf : ∀ (fn : Fn) (first cap : Array Value) (w : World), (Instr.makeFunc fn first cap).run Tryz.prog w = .ok (.func fn first cap) w := fun _ _ _ _ => rfl
  go_enter_defers Tryz.func11, Tryz.ntmps11
  go_wp2_with fail
  refine kf.mono ?_
  rintro e w2 ⟨rfl, hB2⟩
  have HJ2 : Hid (Jb0 w (pcmC p po pc) #[.string f, .slice ao l.length cap] 0 w2) := HJ.out.next hB2
  clear kf hB2 HJ
  have a0 := HJ2.out.ab.c 0 _ rfl
  have a1 := HJ2.out.ab.c 1 _ rfl
  have HJ3 : Hid (Jb7 w (pcmC p po pc) #[.string f, .slice ao l.length cap] 0 w2.heap.size (dftC f false ⟨#[]⟩) (w2.alloc (.cells (dftC f false ⟨#[]⟩) 65))) := HJ2.out.draft (dftC f false ⟨#[]⟩)
  go_upto_region 6 with fail
  generalize hw3 : World.alloc w2 _ = w3
  have HJ4 : Hid (Jb7 w (pcmC p po pc) #[.string f, .slice ao l.length cap] 0 w2.heap.size (dftC f false ⟨#[]⟩) w3) := by
    rw [← hw3]
    exact HJ3.out
  generalize w2.heap.size = Q at *
  clear hw3 HJ3 HJ2 a0 a1
  have a0 := HJ4.out.ab.c 0 _ rfl
  have a1 := HJ4.out.ab.c 1 _ rfl
  go_wp2_with fail
  refine (KL.out _ (HL.out.below HJ4.out.below)).mono ?_
  rintro e w4 ⟨rfl, hB4⟩
  have HJ5 : Hid (Jb7 w (pcmC p po pc) #[.string f, .slice ao l.length cap] 0 Q (dftC f false ⟨#[]⟩) w4 ∧ w3.heap.size ≤ w4.heap.size) := ⟨HJ4.out.next hB4, hB4.size⟩
  clear KL hB4 HJ4 a0 a1
  generalize hX : lkX f l = X at *
  generalize hI : lkI f l = I at *
  generalize hEL : lkE f l = EL at *
  have HX : Hid (lkX f l = X ∧ lkI f l = I ∧ lkE f l = EL) := ⟨hX, hI, hEL⟩
  clear hX hI hEL
  have HJ6 : Hid (Jf7 w (pcmC p po pc) #[.string f, .slice ao l.length cap] EL Q (dftC f false ⟨#[]⟩) w4.heap.size X I ((w4.setCell ⟨w.heap.size + 3, 0, none⟩ (.int .i64 EL)).alloc (.cells (filC X I) 70))) := by
    have hsz : (w4.setCell ⟨w.heap.size + 3, 0, none⟩ (.int .i64 EL)).heap.size = w4.heap.size := by simp [World.setCell]
    have h1 := (HJ5.out.1.setE EL).next (belA _ (.cells (filC X I) 70))
    refine ⟨h1, ?_, HJ5.out.1.db.lt⟩
    rw [← hsz]
    exact Box.new _ _ _
  have HJ5b : Hid (Jb7 w (pcmC p po pc) #[.string f, .slice ao l.length cap] 0 Q (dftC f false ⟨#[]⟩) w4) := HJ5.out.1
  have e0 := HJ5b.out.eb.c 0 _ rfl
  have ez := HJ5b.out.eb.z 0
  have lo5 := HJ5b.out.eb.lt
  clear HJ5
  go_upto_region 7 with fail
  generalize hw6 : World.alloc (World.setCell _ _ _) _ = w6
  have HJ7 : Hid (Jf7 w (pcmC p po pc) #[.string f, .slice ao l.length cap] EL Q (dftC f false ⟨#[]⟩) w4.heap.size X I w6) := by
    rw [← hw6]
    exact HJ6.out
  generalize w4.heap.size = FQ at *
  clear hw6 HJ6 HJ5b e0 ez lo5
  have e0 := HJ7.out.b.eb.c 0 _ rfl
  have ez := HJ7.out.b.eb.z 0
  cases hEL : EL != 0
  · have hE0 : EL = 0 := by simpa using hEL
    obtain ⟨hsn, hgx⟩ := HLG.out hE0
    have HGX : Hid (GoodX X) := hgx
    have HSN : Hid (I = snI l) := hsn
    subst hE0
    clear HLG hEL hsn hgx
    have KI : Hid (∀ wx, RowsAt wx po p.pl → Calls Tryz.prog 29 #[sndV7 X, pcmV p po pc] wx fun e w' => e = .returned (.bool (isOfB X p)) ∧ Below wx.heap.size wx w') := fun wx hx => isOf7_spec X p po pc wx hx
    have p0 := HJ7.out.b.pb.c 0 _ rfl
    have p1 := HJ7.out.b.pb.c 1 _ rfl
    have p2 := HJ7.out.b.pb.c 2 _ rfl
    have p3 := HJ7.out.b.pb.c 3 _ rfl
    have f0 := HJ7.out.fb.c 0 _ rfl
    have f1 := HJ7.out.fb.c 1 _ rfl
    have f2 := HJ7.out.fb.c 2 _ rfl
    have f3 := HJ7.out.fb.c 3 _ rfl
    have f4 := HJ7.out.fb.c 4 _ rfl
    cases hio : isOfB X p
    · have HE : Hid (b7E p f l = 60) := HE0.out.trans (by rw [HOK.out, hio]; rfl)
      have HT : Hid (b7T p f l = ⟨#[]⟩) := HT0.out.trans (if_neg (by rw [HE.out]; decide))
      rw [hio] at KI
      clear HE0 HT0 HOK hio
      go_wp2_with fail
      refine (KI.out _ (HR.out.below HJ7.out.b.below)).mono ?_
      rintro e w8 ⟨rfl, hB8⟩
      have HJ8 : Hid (Jf7 w (pcmC p po pc) #[.string f, .slice ao l.length cap] 0 Q (dftC f false ⟨#[]⟩) FQ X I w8) := HJ7.out.next hB8
      clear KI hB8 HJ7 e0 ez p0 p1 p2 p3 f0 f1 f2 f3 f4
      go_wp2_with fail
      exact leave7 HJ8.out.b HF.out (Nat.zero_le _) rfl rfl fun w' hB => ⟨by rw [HE.out, HT.out]; rfl, hB⟩
    · rw [hio] at KI
      have HOK2 : Hid (ok7 p f l = (holdB l I (smp7 p X) && laidB (bl7 p f l))) := HOK.out.trans (by rw [hio]; rfl)
      clear HOK hio
      go_wp2_with fail
      refine (KI.out _ (HR.out.below HJ7.out.b.below)).mono ?_
      rintro e w8 ⟨rfl, hB8⟩
      have HJ8 : Hid (Jf7 w (pcmC p po pc) #[.string f, .slice ao l.length cap] 0 Q (dftC f false ⟨#[]⟩) FQ X I w8) := HJ7.out.next hB8
      clear KI hB8 HJ7 e0 ez p0 p1 p2 p3 f0 f1 f2 f3 f4
      go_upto_region 8 with fail
      have HD : Hid (Jf7 w (pcmC p po pc) #[.string f, .slice ao l.length cap] 0 Q (dftC f false ⟨#[]⟩) FQ X I w8.drew) := HJ8.out.next (belD _)
      have KY : Hid (∀ wx, Hid (Jf7 w (pcmC p po pc) #[.string f, .slice ao l.length cap] 0 Q (dftC f false ⟨#[]⟩) FQ X I wx) → Calls Tryz.prog 31 #[sndV7 X] wx fun e w' => e = .returned (.agg #[.bool (!X.lit), .bool false]) ∧ Hid (Jf7 w (pcmC p po pc) #[.string f, .slice ao l.length cap] 0 Q (dftC f false ⟨#[]⟩) FQ X I w')) := fun wx hx => (layout7_spec X wx).mono fun e w' q => ⟨q.1, hx.out.next q.2⟩
      have KP : Hid (∀ wx, Hid (Jf7 w (pcmC p po pc) #[.string f, .slice ao l.length cap] 0 Q (dftC f false ⟨#[]⟩) FQ X I wx) → Calls Tryz.prog 30 #[pcmV p po pc, .agg #[.bool (!X.lit), .bool false]] wx fun e w' => e = .returned (.tuple #[.string (smp7 p X), .int .i64 0]) ∧ Hid (Jf7 w (pcmC p po pc) #[.string f, .slice ao l.length cap] 0 Q (dftC f false ⟨#[]⟩) FQ X I w')) := fun wx hx => by
        have k := pack_spec p po pc (!X.lit) false wx (HR.out.below hx.out.b.below)
        rw [HCK.out] at k
        exact k.mono fun e w' q => ⟨q.1, hx.out.next q.2⟩
      have HSS : Hid (∀ wx, (fun wx => ∃ en, Jf7 w (pcmC p po pc) #[.string f, .slice ao l.length cap] en Q (dftC f false ⟨#[]⟩) FQ X I wx) wx → wx.cell? ⟨w.heap.size, 0, none⟩ = some (.int .i64 p.rate) ∧ wx.cell? ⟨w.heap.size, 1, none⟩ = some (.int .i64 p.ch) ∧ wx.cell? ⟨w.heap.size, 2, none⟩ = some (.int .i64 p.wd) ∧ wx.cell? ⟨w.heap.size, 3, none⟩ = some (.slice po p.pl.length pc) ∧ wx.cell? ⟨FQ, 0, none⟩ = some (.int .i64 X.rate) ∧ wx.cell? ⟨FQ, 1, none⟩ = some (.int .i64 X.ch) ∧ wx.cell? ⟨FQ, 2, none⟩ = some (.int .i64 X.wd) ∧ wx.cell? ⟨FQ, 3, none⟩ = some (.int .i64 X.smp) ∧ wx.cell? ⟨FQ, 4, none⟩ = some (.bool X.lit)) := fun wx hx => by
        obtain ⟨en, h⟩ := hx
        exact ⟨h.b.pb.c 0 _ rfl, h.b.pb.c 1 _ rfl, h.b.pb.c 2 _ rfl, h.b.pb.c 3 _ rfl, h.fb.c 0 _ rfl, h.fb.c 1 _ rfl, h.fb.c 2 _ rfl, h.fb.c 3 _ rfl, h.fb.c 4 _ rfl⟩
      generalize hSM : smp7 p X = SM at *
      clear hSM HCK HR
      refine wp_region_held_drew (S := fun wx => ∃ en, Jf7 w (pcmC p po pc) #[.string f, .slice ao l.length cap] en Q (dftC f false ⟨#[]⟩) FQ X I wx) (by kernel_rfl) ⟨_, HD.out⟩ (fun hS => ?_)
      refine wpAnyH_take (i := 0) (v := .agg #[.int .i64 p.rate, .int .i64 p.ch, .int .i64 p.wd, .slice po p.pl.length pc]) rfl (by kernel_rfl) (by kernel_rfl) (by kernel_rfl) (fun _ _ _ h => pan7 (by decide) (by decide) h) (Or.inl ⟨by rfl, fun w hSw => by obtain ⟨s0, s1, s2, s3, s4, s5, s6, s7, s8⟩ := HSS.out _ hSw; go_simp⟩) hS ?_
      simp only [Act.put, List.getElem_toArray, List.getElem_cons_succ, List.getElem_cons_zero, List.setIfInBounds_toArray, List.set_cons_zero, List.set_cons_succ]
      refine wpAnyH_take (i := 1) (v := .pointer (some ⟨FQ, 0, none⟩)) rfl (by kernel_rfl) (by kernel_rfl) (by kernel_rfl) (fun _ _ _ h => pan7 (by decide) (by decide) h) (Or.inl ⟨by rfl, fun w hSw => by obtain ⟨s0, s1, s2, s3, s4, s5, s6, s7, s8⟩ := HSS.out _ hSw; go_simp⟩) hS ?_
      simp only [Act.put, List.getElem_toArray, List.getElem_cons_succ, List.getElem_cons_zero, List.setIfInBounds_toArray, List.set_cons_zero, List.set_cons_succ]
      refine wpAnyH_take (i := 2) (v := .agg #[.int .i64 X.rate, .int .i64 X.ch, .int .i64 X.wd, .int .i64 X.smp, .bool X.lit]) rfl (by kernel_rfl) (by kernel_rfl) (by kernel_rfl) (fun _ _ _ h => pan7 (by decide) (by decide) h) (Or.inl ⟨by rfl, fun w hSw => by obtain ⟨s0, s1, s2, s3, s4, s5, s6, s7, s8⟩ := HSS.out _ hSw; go_simp⟩) hS ?_
      simp only [Act.put, List.getElem_toArray, List.getElem_cons_succ, List.getElem_cons_zero, List.setIfInBounds_toArray, List.set_cons_zero, List.set_cons_succ]
      refine wpAnyH_ready (rs := [3]) (by kernel_rfl) (by simp) ?_
      refine AllReadyH.cons rfl (fun K hK => ?_) AllReadyH.nil
      go_simp
      refine (KY.out _ HD).mono ?_
      rintro e w8 ⟨rfl, h8⟩
      refine hK.out _ _ ⟨_, h8.out⟩ (fun hS8 => ?_)
      clear hK K
      refine wpAnyH_ready (rs := [4]) (by kernel_rfl) (by simp) ?_
      refine AllReadyH.cons rfl (fun K hK => ?_) AllReadyH.nil
      go_simp
      refine (KP.out _ h8).mono ?_
      rintro e w9 ⟨rfl, h9⟩
      refine hK.out _ _ ⟨_, h9.out⟩ (fun hS9 => ?_)
      clear hK K
      refine wpAnyH_take (i := 5) (v := .tuple #[.string SM, .int .i64 0]) rfl (by kernel_rfl) (by kernel_rfl) (by kernel_rfl) (fun _ _ _ h => pan7 (by decide) (by decide) h) (Or.inl ⟨by rfl, fun w hSw => by obtain ⟨s0, s1, s2, s3, s4, s5, s6, s7, s8⟩ := HSS.out _ hSw; go_simp⟩) hS9 ?_
      simp only [Act.put, List.getElem_toArray, List.getElem_cons_succ, List.getElem_cons_zero, List.setIfInBounds_toArray, List.set_cons_zero, List.set_cons_succ]
      refine wpAnyH_take (i := 6) (v := .string SM) rfl (by kernel_rfl) (by kernel_rfl) (by kernel_rfl) (fun _ _ _ h => pan7 (by decide) (by decide) h) (Or.inl ⟨by rfl, fun w hSw => by obtain ⟨s0, s1, s2, s3, s4, s5, s6, s7, s8⟩ := HSS.out _ hSw; go_simp⟩) hS9 ?_
      simp only [Act.put, List.getElem_toArray, List.getElem_cons_succ, List.getElem_cons_zero, List.setIfInBounds_toArray, List.set_cons_zero, List.set_cons_succ]
      refine wpAnyH_take (i := 7) (v := .int .i64 0) rfl (by kernel_rfl) (by kernel_rfl) (by kernel_rfl) (fun _ _ _ h => pan7 (by decide) (by decide) h) (Or.inl ⟨by rfl, fun w hSw => by obtain ⟨s0, s1, s2, s3, s4, s5, s6, s7, s8⟩ := HSS.out _ hSw; go_simp⟩) hS9 ?_
      simp only [Act.put, List.getElem_toArray, List.getElem_cons_succ, List.getElem_cons_zero, List.setIfInBounds_toArray, List.set_cons_zero, List.set_cons_succ]
      have e0 := h9.out.b.eb.c 0 _ rfl
      have ez := h9.out.b.eb.z 0
      have H10 : Hid (Jf7 w (pcmC p po pc) #[.string f, .slice ao l.length cap] 0 Q (dftC f false ⟨#[]⟩) FQ X I (w9.setCell ⟨w.heap.size + 3, 0, none⟩ (.int .i64 0))) := h9.out.setE 0
      refine wpAnyH_take (i := 8) (v := .string SM) rfl (by kernel_rfl) (by kernel_rfl) (by kernel_rfl) (fun _ _ _ h => pan7 (by decide) (by decide) h) (Or.inl ⟨by rfl, fun w hSw => by obtain ⟨s0, s1, s2, s3, s4, s5, s6, s7, s8⟩ := HSS.out _ hSw; go_simp⟩) hS9 ?_
      simp only [Act.put, List.getElem_toArray, List.getElem_cons_succ, List.getElem_cons_zero, List.setIfInBounds_toArray, List.set_cons_zero, List.set_cons_succ]
      refine wpAnyH_ready (rs := [9]) (by kernel_rfl) (by simp) ?_
      refine AllReadyH.cons rfl (fun K hK => ?_) AllReadyH.nil
      go_simp
      refine hK.out _ _ ⟨_, H10.out⟩ (fun hS10 => ?_)
      clear hK K
      refine wpAnyH_done (by kernel_rfl) ?_ _
      clear h8 HD KY KP e0 ez HSS hS hS8 hS9 hS10
      generalize w9.setCell ⟨w.heap.size + 3, 0, none⟩ (.int .i64 0) = w10 at *
      have HJ9 : Hid (Jf7 w (pcmC p po pc) #[.string f, .slice ao l.length cap] 0 Q (dftC f false ⟨#[]⟩) FQ X I w10) := H10.out
      clear h9 H10 HJ8
      have e0 := HJ9.out.b.eb.c 0 _ rfl
      have a1 := HJ9.out.b.ab.c 1 _ rfl
      have f0 := HJ9.out.fb.c 0 _ rfl
      have f1 := HJ9.out.fb.c 1 _ rfl
      have f2 := HJ9.out.fb.c 2 _ rfl
      have f3 := HJ9.out.fb.c 3 _ rfl
      have f4 := HJ9.out.fb.c 4 _ rfl
      have f5 := HJ9.out.fb.c 5 _ rfl
      have hbi : I = -1 ∨ ∃ i c, l[i]? = some c ∧ I = ((i : Nat) : Int) := by
        rw [HSN.out]
        rcases findN_cases l ssndT with ⟨q, _⟩ | ⟨i, c, q1, q2, _⟩
        · exact Or.inl q
        · exact Or.inr ⟨i, c, q1, q2⟩
      have HBI : Hid (I = -1 ∨ ∃ i c, l[i]? = some c ∧ I = ((i : Nat) : Int)) := hbi
      clear hbi
      have KM : Hid (∀ wx, ChksAt wx ao l → Calls Tryz.prog 32 #[.agg (filC X I), .slice ao l.length cap, .string SM] wx fun e w' => e = .returned (.bool (holdB l I SM)) ∧ Below wx.heap.size wx w') := fun wx hx => by
        rcases HBI.out with q | ⟨i, c, q1, q2⟩
        · rw [q]
          exact mayHold_none X l SM ao cap wx
        · rw [q2]
          exact mayHold_some X l i c q1 SM ao cap wx hx (by omega)
      cases hho : holdB l I SM
      · have HE : Hid (b7E p f l = 60) := HE0.out.trans (by rw [HOK2.out, hho]; rfl)
        have HT : Hid (b7T p f l = ⟨#[]⟩) := HT0.out.trans (if_neg (by rw [HE.out]; decide))
        rw [hho] at KM
        clear HE0 HT0 HOK2 hho
        go_wp2_with fail
        refine (KM.out _ (HL.out.below HJ9.out.b.below)).mono ?_
        rintro e w11 ⟨rfl, hB11⟩
        have HJ11 : Hid (Jf7 w (pcmC p po pc) #[.string f, .slice ao l.length cap] 0 Q (dftC f false ⟨#[]⟩) FQ X I w11) := HJ9.out.next hB11
        clear KM hB11 HJ9 e0 a1 f0 f1 f2 f3 f4 f5
        go_wp2_with fail
        exact leave7 HJ11.out.b HF.out (Nat.zero_le _) rfl rfl fun w' hB => ⟨by rw [HE.out, HT.out]; rfl, hB⟩
      · have HOK3 : Hid (ok7 p f l = laidB (bl7 p f l)) := HOK2.out.trans (by rw [hho]; rfl)
        rw [hho] at KM
        clear HOK2 hho
        have HBL2 : Hid (bl7 p f l = filL l I SM) := HBL.out
        have KF : Hid (∀ wx, ChksAt wx ao l → Calls Tryz.prog 34 #[.agg (filC X I), .slice ao l.length cap, .string SM] wx (GivesL7 wx (bl7 p f l))) := fun wx hx => by
          rw [HBL2.out]
          rcases HBI.out with q | ⟨i, c, q1, q2⟩
          · rw [q]
            exact filled7_none X l SM ao cap wx hx hll
          · rw [q2]
            exact filled7_some X l i c q1 SM (by have := (HFL.out c (List.mem_of_getElem? q1)).2; have := HPZ.out; omega) ao cap wx hx hll
        have HBF : Hid (FairL (bl7 p f l) ∧ (bl7 p f l).length ≤ 3500000000000) := by
          rw [HBL2.out]
          exact ⟨fair_fil l I SM HFL.out HPZ.out, by rw [fil_len]; exact hll⟩
        generalize bl7 p f l = L at *
        clear HBL HBL2 HBI HSN HX
        go_wp2_with fail
        refine (KM.out _ (HL.out.below HJ9.out.b.below)).mono ?_
        rintro e w11 ⟨rfl, hB11⟩
        have HJ11 : Hid (Jf7 w (pcmC p po pc) #[.string f, .slice ao l.length cap] 0 Q (dftC f false ⟨#[]⟩) FQ X I w11) := HJ9.out.next hB11
        clear KM hB11 HJ9 e0 a1 f0 f1 f2 f3 f4 f5
        have a1 := HJ11.out.b.ab.c 1 _ rfl
        have f0 := HJ11.out.fb.c 0 _ rfl
        have f1 := HJ11.out.fb.c 1 _ rfl
        have f2 := HJ11.out.fb.c 2 _ rfl
        have f3 := HJ11.out.fb.c 3 _ rfl
        have f4 := HJ11.out.fb.c 4 _ rfl
        have f5 := HJ11.out.fb.c 5 _ rfl
        go_wp2_with fail
        refine (KF.out _ (HL.out.below HJ11.out.b.below)).mono ?_
        rintro e w12 ⟨lo, lc, rfl, ho12, hB12⟩
        have HJ12 : Hid (Jf7 w (pcmC p po pc) #[.string f, .slice ao l.length cap] 0 Q (dftC f false ⟨#[]⟩) FQ X I w12) := HJ11.out.next hB12
        have HO12 : Hid (OwnC w11.heap.size lo lc L w12) := ho12
        clear KF hB12 HJ11 ho12 a1 f0 f1 f2 f3 f4 f5
        have kl := lay7_spec Q f L lo lc w12 HJ12.out.b.db HO12.out.at HBF.out.1 HBF.out.2
        go_wp2_with fail
        refine kl.mono ?_
        rintro e w13 ⟨rfl, ha13, hd13⟩
        have HJ13 : Hid (Jb7 w (pcmC p po pc) #[.string f, .slice ao l.length cap] 0 Q (dftL f L) w13) := HJ12.out.b.aside ha13 hd13
        clear kl ha13 hd13 HJ12 HO12
        go_wp2_with fail
        cases hla : laidB L
        · have HE : Hid (b7E p f l = 60) := HE0.out.trans (by rw [HOK3.out, hla]; rfl)
          have HT : Hid (b7T p f l = ⟨#[]⟩) := HT0.out.trans (if_neg (by rw [HE.out]; decide))
          obtain ⟨bl, s, e1, e2, e3, e4⟩ := (cl_room f L).2 hla
          have HJ14 : Hid (Jb7 w (pcmC p po pc) #[.string f, .slice ao l.length cap] 0 Q (dftC f bl s) w13) := by rw [← e1]; exact HJ13
          exact leave7 HJ14.out HF.out e4 rfl rfl fun w' hB => ⟨by rw [HE.out, HT.out, e2, e3], hB⟩
        · have HE : Hid (b7E p f l = 0) := HE0.out.trans (by rw [HOK3.out, hla]; rfl)
          have HT : Hid (b7T p f l = headT7 f (12 + ((layT L true).size : Int)) ++ layT L true) := HT0.out.trans (if_pos HE.out)
          obtain ⟨bl, s, e1, e2, e3, e4⟩ := (cl_room f L).1 hla
          have HJ14 : Hid (Jb7 w (pcmC p po pc) #[.string f, .slice ao l.length cap] 0 Q (dftC f bl s) w13) := by rw [← e1]; exact HJ13
          exact leave7 HJ14.out HF.out e4 rfl rfl fun w' hB => ⟨by rw [HE.out, HT.out, e2, e3], hB⟩
  · have hn : EL ≠ 0 := by simpa using hEL
    have HE : Hid (b7E p f l = 60) := HE0.out.trans (by rw [HOK.out, show (EL == 0) = false from by simpa using hn]; rfl)
    have HT : Hid (b7T p f l = ⟨#[]⟩) := HT0.out.trans (if_neg (by rw [HE.out]; decide))
    clear HE0 HT0 HOK HLG hn
    go_wp2_with fail
    exact leave7 HJ7.out.b HF.out (Nat.zero_le _) rfl rfl fun w' hB => ⟨by rw [HE.out, HT.out]; rfl, hB⟩

theorem Build7_spec (p : Pcm) (po : Option Addr) (pc : Nat) (f : ByteArray) (l : List Chk) (ao : Option Addr) (cap : Nat) (w : World) (hr : RowsAt w po p.pl) (hl : ChksAt w ao l) (hfl : FairT l) (hll : l.length ≤ 3500000000000) (hfz : f.size ≤ 140737488355328) :
    Calls Tryz.prog 11 #[pcmV p po pc, .agg #[.string f, .slice ao l.length cap]] w fun e w' => e = .returned (.tuple #[.string (b7T p f l), .int .i64 (b7E p f l)]) ∧ Below w.heap.size w w' := by
  by_cases h : fitsN 2 p = 0
  · exact Build7_yes p po pc f l ao cap w hr hl hfl hll hfz h
  · exact Build7_no p po pc f l ao cap w hr h

end Go.Proofs.YtaepgjheknkojaaGreat
