/- Own text: the walk of parse (aiff). -/
import Derived.Test.YtaepgjheknkojaaGreatG33x
import Derived.Test.YtaepgjheknkojaaGreatG36x
import Derived.Test.YtaepgjheknkojaaGreatG26x
import Derived.Deep.Cut
namespace Go.Proofs.YtaepgjheknkojaaGreat
open Go.RowKit
set_option linter.unusedSimpArgs false
set_option linter.unusedVariables false
theorem res_parse7 {fn : Func} (h : fn.results = #[.cell 2 24, .cell 3 27, .tmp 4]) {wf : World} {b0 b1 : Nat} {dp dw : Array Value} (hp : wf.heap[b0]? = some (.cells dp 24 (0, 0))) (hw : wf.heap[b1]? = some (.cells dw 27 (0, 0))) (hd : dp.size = 4) (he : dw.size = 2) (a' : Act) (n : Value)
    (h2 : a'.tmps.getD 2 undef = .pointer (some ⟨b0, 0, none⟩)) (h3 : a'.tmps.getD 3 undef = .pointer (some ⟨b1, 0, none⟩)) (h4 : a'.tmps.getD 4 undef = n) :
    (results fn a'.tmps).run Tryz.prog wf = .ok (.tuple #[.agg dp, .agg dw, n]) wf := by
  have hld := run_loadVar_row (P := Tryz.prog) wf b0 24 24 dp (0, 0) _ hp Tryz.underlying24 rfl (by rw [hd]; exact infoP7)
  have hlw := run_loadVar_row (P := Tryz.prog) wf b1 27 27 dw (0, 0) _ hw Tryz.underlying27 rfl (by rw [he]; exact infoA)
  have e : (results fn a'.tmps).run Tryz.prog wf = ((asAddr (a'.tmps.getD 2 undef)).run Tryz.prog wf).andThen fun a w₁ => ((loadVar 24 a).run Tryz.prog w₁).andThen fun x w₂ => ((asAddr (a'.tmps.getD 3 undef)).run Tryz.prog w₂).andThen fun a2 w₃ => ((loadVar 27 a2).run Tryz.prog w₃).andThen fun y w₄ => .ok (.tuple #[x, y, a'.tmps.getD 4 undef]) w₄ := by
    simp only [results, h]
    simp [Sem.run_bind, Result.andThen]
  rw [e]
  simp [h2, h3, h4, asAddr, Result.andThen, hld, hlw]
theorem Ja7.self {w0 w : World} {a b c d x y : Value} (h : Ja7 w0 #[a, b, c, d] #[x, y] w) :
    ((((((w.setCell ⟨w0.heap.size, 0, none⟩ a).setCell ⟨w0.heap.size, 1, none⟩ b).setCell ⟨w0.heap.size, 2, none⟩ c).setCell ⟨w0.heap.size, 3, none⟩ d).setCell ⟨w0.heap.size + 1, 0, none⟩ x).setCell ⟨w0.heap.size + 1, 1, none⟩ y) = w := by
  rw [set_same7 h.rp rfl, set_same7 h.rp rfl, set_same7 h.rp rfl, set_same7 h.rp rfl, set_same7 h.rw' rfl, set_same7 h.rw' rfl]

theorem Ja7.aside {w0 w w1 : World} {dp dw : Array Value} {ao : Option Addr} (h : Ja7 w0 dp dw w) (ha : Aside ao w w1) (hf : FreshC (w0.heap.size + 2) ao) : Ja7 w0 dp dw w1 :=
  ⟨(ha.block _ (lt_of_block h.rp) fun g off e => by have := hf g off e; omega).trans h.rp, (ha.block _ (lt_of_block h.rw') fun g off e => by have := hf g off e; omega).trans h.rw', ha.below h.below fun g off e => by have := hf g off e; omega⟩
theorem op_parts (s : ByteArray) (h : opE s = 0) : chunksN (s.extract 12 s.size) true = (opL s, 0) ∧ s.size ≤ 67108864 ∧ 12 ≤ s.size ∧ begB7 s = true ∧ (beI s 4 8 != (s.size : Int) - 8) = false := by
  unfold opE at h
  cases hb : begB7 s
  · rw [hb] at h
    cases h
  · rw [hb] at h
    simp only [if_true] at h
    by_cases h1 : 67108864 < s.size
    · rw [if_pos h1] at h
      cases h
    · rw [if_neg h1] at h
      cases h2 : beI s 4 8 != (s.size : Int) - 8
      · rw [h2] at h
        simp only [Bool.false_eq_true, if_false] at h
        refine ⟨Prod.ext rfl h, by omega, ?_, rfl, rfl⟩
        unfold begB7 at hb
        have := (Bool.and_eq_true_iff.1 hb).1
        have h12 : ¬ ((s.size : Int) < 12) := by simpa using this
        omega
      · rw [h2] at h
        cases h
theorem op_body (s : ByteArray) (h : opE s = 0) : (∀ c ∈ opL s, c.body.size ≤ 67108864) ∧ (opL s).length ≤ 1024 := by
  obtain ⟨h1, h2, h3, _⟩ := op_parts s h
  obtain ⟨a1, _, a3⟩ := chunks_lay _ _ h1
  refine ⟨fun c hc => ?_, of_decide_eq_true (Bool.and_eq_true_iff.1 a1).1⟩
  have := size_of _ c hc
  rw [a3, ext_size _ _ _ (by omega) (Nat.le_refl _)] at this
  omega
theorem comX_parts (s : ByteArray) (c : Bool) : (comX s c).ch = beI s 0 2 ∧ (comX s c).wd = beI s 6 8 ∧ (comX s c).smp = beI s 2 6 := by
  unfold comX
  exact ⟨rfl, rfl, rfl⟩
theorem good_com (s : ByteArray) (c : Bool) (h : comE s c = 0) : GoodX (comR s c) ∧ wdB (comR s c).wd = true ∧ 1 ≤ (comR s c).ch ∧ wholeB s c = true := by
  have hr : comR s c = comX s c := if_pos h
  rw [hr]
  rw [comE_eq] at h
  cases h1 : wholeB s c
  · rw [h1] at h
    cases h
  rw [h1] at h
  simp only [if_true] at h
  cases h2 : (kindT s c).toList != noneT.toList && (kindT s c).toList != sowtT.toList
  · rw [h2] at h
    simp only [Bool.false_eq_true, if_false] at h
    generalize ((frV (bytesOf (s.extract 8 18))).2 : Int) = FR at *
    cases h3 : FR != 0
    · rw [h3] at h
      simp only [Bool.false_eq_true, if_false] at h
      rw [againE_com] at h
      have r1 := beI_range s 0 2 (by omega)
      have r2 := beI_range s 6 8 (by omega)
      have r3 := beI_range s 2 6 (by omega)
      obtain ⟨hc, hw, hs⟩ := comX_parts s c
      generalize comX s c = X at *
      generalize beI s 0 2 = b1 at *
      generalize beI s 6 8 = b2 at *
      generalize beI s 2 6 = b3 at *
      cases h4 : b1 == 0
      · rw [h4] at h
        simp only [Bool.false_eq_true, if_false] at h
        cases h5 : decide (8 < b1)
        · cases h6 : wdB b2
          · rw [h5, h6] at h
            cases h
          · rw [h5, h6] at h
            simp only [Bool.not_true, Bool.or_self, Bool.false_eq_true, if_false] at h
            cases h7 : decide (1048576 < b3)
            · have g4 : b1 ≠ 0 := by simpa using h4
              have g5 := of_decide_eq_false h5
              have g7 := of_decide_eq_false h7
              have g6 : b2 = 8 ∨ b2 = 16 ∨ b2 = 24 ∨ b2 = 32 := by
                unfold wdB at h6
                simpa using h6
              refine ⟨⟨by omega, by omega, by omega, by omega, by omega, by omega⟩, by rw [hw]; exact h6, by omega, rfl⟩
            · rw [h7] at h
              cases h
        · rw [h5] at h
          cases h
      · rw [h4] at h
        cases h
    · rw [h3] at h
      simp only [if_true] at h
      rw [h] at h3
      cases h3
  · rw [h2] at h
    cases h
theorem lk_good {f : ByteArray} {l : List Chk} (h : lkE f l = 0) : lkB f l = true ∧ comE (cmB l) (kB f) = 0 ∧ lkX f l = comR (cmB l) (kB f) ∧ lkI f l = snI l ∧ GoodX (lkX f l) := by
  unfold lkE at h
  cases hb : lkB f l
  · rw [hb] at h
    cases h
  · rw [hb] at h
    simp only [if_true] at h
    have e : lkX f l = comR (cmB l) (kB f) := by unfold lkX; rw [hb]; rfl
    refine ⟨rfl, h, e, by unfold lkI; rw [hb]; rfl, by rw [e]; exact (good_com _ _ h).1⟩
/-- What parse answers. -/
def GivesA7 (w : World) (s : ByteArray) (e : Ending) (w' : World) : Prop := ∃ q po pc f ao n cap, e = .returned (.tuple #[pcmV q po pc, .agg #[.string f, .slice ao n cap], .int .i64 (p7E s)]) ∧ Below w.heap.size w w' ∧ (p7E s = 0 → q = p7P s ∧ RowsAt w' po q.pl ∧ Fresh w.heap.size w' po q.pl ∧ f = opF s ∧ n = (p7L s).length ∧ OwnC w.heap.size ao cap (p7L s) w')
theorem OwnC.drew {B : Nat} {ao : Option Addr} {cap : Nat} {l : List Chk} {w : World} (h : OwnC B ao cap l w) : OwnC B ao cap l w.drew := h.next (belD _)
theorem Fresh.drew7 {B : Nat} {w : World} {ao : Option Addr} {xs : List (List Int)} (h : Fresh B w ao xs) : Fresh B w.drew ao xs := ⟨h.own, h.rows⟩

set_option maxRecDepth 20000 in
set_option maxHeartbeats 6400000 in
theorem parse7_spec (s : ByteArray) (w : World) (hs : s.size ≤ 140737488351232) :
    Calls Tryz.prog 16 #[.string s] w (GivesA7 w s) := by
  have HJ0 : Hid (Ja7 w zeroP7 zeroW ((w.alloc (.cells zeroP7 24)).alloc (.cells zeroW 27))) := Ja7.new2 w _ _
  have ko := open7_spec s ((w.alloc (.cells zeroP7 24)).alloc (.cells zeroW 27)) hs
  have HPE : Hid (p7E s = if opE s = 0 then (if lkE (opF s) (opL s) = 0 then (if cut7E (opL s) (opX s) (opI s) = 0 then uE (opS s) (opX s).rate (opX s).ch (opX s).wd (!(opX s).lit) false else 2) else lkE (opF s) (opL s)) else opE s) := rfl
  have hsz0 : ((w.alloc (.cells zeroP7 24)).alloc (.cells zeroW 27)).heap.size = w.heap.size + 2 := by simp
  have HSZ0 : Hid (((w.alloc (.cells zeroP7 24)).alloc (.cells zeroW 27)).heap.size = w.heap.size + 2) := hsz0
  clear hsz0
  go_enter Tryz.func16, Tryz.ntmps16
  go_wp2_with fail
  refine ko.mono ?_
  rintro e w2 ⟨f, ao, n, cap, rfl, hB2, hok⟩
  have HJ2 : Hid (Ja7 w zeroP7 zeroW w2) := HJ0.out.next hB2
  have HOK : Hid (opE s = 0 → f = opF s ∧ n = (opL s).length ∧ OwnC (w.heap.size + 2) ao cap (opL s) w2) := fun q => by
    obtain ⟨q1, q2, q3⟩ := hok q
    rw [HSZ0.out] at q3
    exact ⟨q1, q2, q3⟩
  clear ko hB2 HJ0 hok HSZ0
  have HJ3 : Hid (Ja7 w zeroP7 #[.string f, .slice ao n cap] ((w2.setCell ⟨w.heap.size + 1, 0, none⟩ (.string f)).setCell ⟨w.heap.size + 1, 1, none⟩ (.slice ao n cap))) := (HJ2.out.setW 0 (.string f)).setW 1 (.slice ao n cap)
  have HO3 : Hid (opE s = 0 → OwnC (w.heap.size + 2) ao cap (opL s) ((w2.setCell ⟨w.heap.size + 1, 0, none⟩ (.string f)).setCell ⟨w.heap.size + 1, 1, none⟩ (.slice ao n cap))) := fun q => ((HOK.out q).2.2.other (a := ⟨w.heap.size + 1, 0, none⟩) (by show w.heap.size + 1 < _; omega) _).other (a := ⟨w.heap.size + 1, 1, none⟩) (by show w.heap.size + 1 < _; omega) _
  have a0 := HJ2.out.sk 0 _ rfl
  have a1 := HJ2.out.sk 1 _ rfl
  have az0 := HJ2.out.wz 0
  have az1 := HJ2.out.wz 1
  cases hE : opE s != 0
  · have hE0 : opE s = 0 := by simpa using hE
    obtain ⟨rfl, rfl, _⟩ := HOK.out hE0
    have HO4 : Hid (OwnC (w.heap.size + 2) ao cap (opL s) ((w2.setCell ⟨w.heap.size + 1, 0, none⟩ (.string (opF s))).setCell ⟨w.heap.size + 1, 1, none⟩ (.slice ao (opL s).length cap))) := HO3.out hE0
    obtain ⟨hbd, hln⟩ := op_body s hE0
    have HBD : Hid (∀ c ∈ opL s, c.body.size ≤ 67108864) := hbd
    have HPE2 : Hid (p7E s = if lkE (opF s) (opL s) = 0 then (if cut7E (opL s) (opX s) (opI s) = 0 then uE (opS s) (opX s).rate (opX s).ch (opX s).wd (!(opX s).lit) false else 2) else lkE (opF s) (opL s)) := HPE.out.trans (if_pos hE0)
    rw [hE0]
    have KL : Hid (∀ wx, ChksAt wx ao (opL s) → Calls Tryz.prog 28 #[.agg #[.string (opF s), .slice ao (opL s).length cap]] wx fun e w' => e = .returned (.tuple #[.agg (filC (lkX (opF s) (opL s)) (lkI (opF s) (opL s))), .int .i64 (lkE (opF s) (opL s))]) ∧ Below wx.heap.size wx w') := fun wx hx => look7_spec (opF s) (opL s) ao cap wx hx (by omega) fun c hc => by have := HBD.out c hc; omega
    have HLG : Hid (lkE (opF s) (opL s) = 0 → lkI (opF s) (opL s) = snI (opL s) ∧ GoodX (lkX (opF s) (opL s))) := fun q => ⟨(lk_good q).2.2.2.1, (lk_good q).2.2.2.2⟩
    have HXD : Hid (opX s = lkX (opF s) (opL s) ∧ opI s = lkI (opF s) (opL s) ∧ opS s = smpS (opL s) (opI s) ∧ p7L s = cut7L (opL s) (opI s) ∧ p7P s = uP (opS s) (opX s).rate (opX s).ch (opX s).wd (!(opX s).lit) false) := ⟨rfl, rfl, rfl, rfl, rfl⟩
    clear HPE HOK HO3 hE hE0 hbd HJ2
    go_wp2_with fail
    generalize ((w2.setCell ⟨w.heap.size + 1, 0, none⟩ (.string (opF s))).setCell ⟨w.heap.size + 1, 1, none⟩ (.slice ao (opL s).length cap)) = w3 at *
    refine (KL.out _ HO4.out.at).mono ?_
    rintro e w4 ⟨rfl, hB4⟩
    clear a0 a1 az0 az1 KL
    have hXD := HXD.out
    rw [← hXD.1, ← hXD.2.1] at HLG ⊢
    clear hXD
    have HJ5 : Hid (Ja7 w zeroP7 #[.string (opF s), .slice ao (opL s).length cap] (w4.alloc (.cells (filC (opX s) (opI s)) 70)) ∧ OwnC (w.heap.size + 2) ao cap (opL s) (w4.alloc (.cells (filC (opX s) (opI s)) 70)) ∧ Box w4.heap.size (filC (opX s) (opI s)) 70 (w4.alloc (.cells (filC (opX s) (opI s)) 70)) ∧ (∀ g off, ao = some ⟨g, off, none⟩ → g < w4.heap.size)) := ⟨(HJ3.out.next hB4).next (belA _ _), (HO4.out.next hB4).next (belA _ _), Box.new _ _ _, fun g off e => by
      subst e
      exact ((HO4.out.next hB4).lt g rfl).2⟩
    clear HJ3 HO4 hB4
    cases hE2 : lkE (opF s) (opL s) != 0
    · have hE20 : lkE (opF s) (opL s) = 0 := by simpa using hE2
      obtain ⟨hsn, hgx⟩ := HLG.out hE20
      have HPE3 : Hid (p7E s = if cut7E (opL s) (opX s) (opI s) = 0 then uE (opS s) (opX s).rate (opX s).ch (opX s).wd (!(opX s).lit) false else 2) := HPE2.out.trans (if_pos hE20)
      rw [hE20]
      have KC : Hid (∀ wx, OwnC (w.heap.size + 2) ao cap (opL s) wx → Calls Tryz.prog 44 #[.agg (filC (opX s) (opI s)), .slice ao (opL s).length cap] wx (GivesC wx (w.heap.size + 2) ao cap (opL s) (opX s) (opI s))) := fun wx hx => by
        rw [hsn]
        rcases findN_cases (opL s) ssndT with ⟨q, _⟩ | ⟨i, c, q1, q2, _⟩
        · rw [show snI (opL s) = -1 from q]
          exact cut7_none (opX s) (opL s) _ ao cap wx hgx hx
        · rw [show snI (opL s) = (i : Int) from q2]
          exact cut7_some (opX s) (opL s) i c q1 (by have := HBD.out c (List.mem_of_getElem? q1); omega) _ ao cap wx hgx hx
      have HSS : Hid ((opS s).size ≤ 67108864) := by
        show _ ≤ _
        rw [HXD.out.2.2.1, hsn]
        unfold smpS
        split
        · exact Nat.zero_le _
        · rcases findN_cases (opL s) ssndT with ⟨q, _⟩ | ⟨i, c, q1, q2, _⟩
          · exact absurd q ‹_›
          · rw [show snI (opL s) = (i : Int) from q2, atC_get _ _ _ q1, ByteArray.size_extract]
            have := HBD.out c (List.mem_of_getElem? q1)
            omega
      clear HPE2 HLG hE2 hE20 hsn hgx HBD
      generalize hX : opX s = X at *
      generalize hI : opI s = I at *
      have HXI : Hid (opX s = X ∧ opI s = I) := ⟨hX, hI⟩
      clear hX hI
      go_upto_region 7 with fail
      generalize hw5 : World.alloc w4 _ = w5
      have HJ6 : Hid (Ja7 w zeroP7 #[.string (opF s), .slice ao (opL s).length cap] w5 ∧ OwnC (w.heap.size + 2) ao cap (opL s) w5 ∧ Box w4.heap.size (filC X I) 70 w5 ∧ (∀ g off, ao = some ⟨g, off, none⟩ → g < w4.heap.size)) := by
        rw [← hw5]
        exact HJ5.out
      generalize w4.heap.size = Q at *
      clear hw5 HJ5
      have a1 := HJ6.out.1.sk 1 _ rfl
      have f0 := HJ6.out.2.2.1.c 0 _ rfl
      have f1 := HJ6.out.2.2.1.c 1 _ rfl
      have f2 := HJ6.out.2.2.1.c 2 _ rfl
      have f3 := HJ6.out.2.2.1.c 3 _ rfl
      have f4 := HJ6.out.2.2.1.c 4 _ rfl
      have f5 := HJ6.out.2.2.1.c 5 _ rfl
      go_wp2_with fail
      refine (KC.out _ HJ6.out.2.1).mono ?_
      rintro e w6 ⟨d, rfl, ha6, hd6⟩
      clear a1 f0 f1 f2 f3 f4 f5 KC
      have HJ7 : Hid (Ja7 w zeroP7 #[.string (opF s), .slice ao (opL s).length cap] w6 ∧ Box Q (filC X I) 70 w6) := ⟨HJ6.out.1.aside ha6 HJ6.out.2.1.fresh, HJ6.out.2.2.1.aside ha6 fun g off e => by have := HJ6.out.2.2.2 g off e; omega⟩
      have HD6 : Hid (cut7E (opL s) X I = 0 → d = smpS (opL s) I ∧ OwnC (w.heap.size + 2) ao cap (cut7L (opL s) I) w6) := hd6
      clear HJ6 ha6 hd6
      cases hE3 : cut7E (opL s) X I != 0
      · have hE30 : cut7E (opL s) X I = 0 := by simpa using hE3
        obtain ⟨rfl, ho6⟩ := HD6.out hE30
        have HO6 : Hid (OwnC (w.heap.size + 2) ao cap (p7L s) w6) := by
          show OwnC _ _ _ _ _
          rw [HXD.out.2.2.2.1]
          exact ho6
        have hpl : (opL s).length = (p7L s).length := by
          rw [HXD.out.2.2.2.1]
          unfold cut7L
          split
          · rfl
          · rw [List.length_set]
        have hos : smpS (opL s) I = opS s := by rw [HXD.out.2.2.1]
        have HPE4 : Hid (p7E s = uE (opS s) X.rate X.ch X.wd (!X.lit) false) := HPE3.out.trans (if_pos hE30)
        have KP := fun wx => pcm7_spec X (opS s) wx (by have := HSS.out; omega)
        have HPP : Hid (p7P s = uP (opS s) X.rate X.ch X.wd (!X.lit) false) := by
          show _ = _
          rw [HXD.out.2.2.2.2]
        rw [hE30, hos]
        rw [hpl] at HJ7 ⊢
        clear HD6 ho6 hE3 hE30 hpl hos HXD HXI HPE3 HSS
        generalize uE (opS s) X.rate X.ch X.wd (!X.lit) false = UE at *
        generalize uP (opS s) X.rate X.ch X.wd (!X.lit) false = q at *
        have f0 := HJ7.out.2.c 0 _ rfl
        have f1 := HJ7.out.2.c 1 _ rfl
        have f2 := HJ7.out.2.c 2 _ rfl
        have f3 := HJ7.out.2.c 3 _ rfl
        have f4 := HJ7.out.2.c 4 _ rfl
        go_wp2_with fail
        refine (KP _).mono ?_
        rintro e w7 ⟨po, pc, rfl, hr7, hf7, hB7⟩
        have HJ8 : Hid (Ja7 w zeroP7 #[.string (opF s), .slice ao (p7L s).length cap] w7 ∧ OwnC (w.heap.size + 2) ao cap (p7L s) w7 ∧ RowsAt w7 po q.pl ∧ Fresh w6.heap.size w7 po q.pl ∧ w.heap.size + 1 < w6.heap.size) := ⟨HJ7.out.1.next hB7, HO6.out.next hB7, hr7, hf7, lt_of_block HJ7.out.1.rw'⟩
        clear KP hr7 hf7 hB7 HJ7 HO6 f0 f1 f2 f3 f4
        generalize w6.heap.size = H6 at *
        have H9 : Hid (Ja7 w (pcmC q po pc) #[.string (opF s), .slice ao (p7L s).length cap] ((((w7.setCell ⟨w.heap.size, 0, none⟩ (.int .i64 q.rate)).setCell ⟨w.heap.size, 1, none⟩ (.int .i64 q.ch)).setCell ⟨w.heap.size, 2, none⟩ (.int .i64 q.wd)).setCell ⟨w.heap.size, 3, none⟩ (.slice po q.pl.length pc)) ∧ OwnC w.heap.size ao cap (p7L s) ((((w7.setCell ⟨w.heap.size, 0, none⟩ (.int .i64 q.rate)).setCell ⟨w.heap.size, 1, none⟩ (.int .i64 q.ch)).setCell ⟨w.heap.size, 2, none⟩ (.int .i64 q.wd)).setCell ⟨w.heap.size, 3, none⟩ (.slice po q.pl.length pc)) ∧ RowsAt ((((w7.setCell ⟨w.heap.size, 0, none⟩ (.int .i64 q.rate)).setCell ⟨w.heap.size, 1, none⟩ (.int .i64 q.ch)).setCell ⟨w.heap.size, 2, none⟩ (.int .i64 q.wd)).setCell ⟨w.heap.size, 3, none⟩ (.slice po q.pl.length pc)) po q.pl ∧ Fresh w.heap.size ((((w7.setCell ⟨w.heap.size, 0, none⟩ (.int .i64 q.rate)).setCell ⟨w.heap.size, 1, none⟩ (.int .i64 q.ch)).setCell ⟨w.heap.size, 2, none⟩ (.int .i64 q.wd)).setCell ⟨w.heap.size, 3, none⟩ (.slice po q.pl.length pc)) po q.pl) := by
          obtain ⟨j1, j2, j3, j4, j5⟩ := HJ8.out
          obtain ⟨a1, a2⟩ := j3.setLow j4 (a := ⟨w.heap.size, 0, none⟩) (by show w.heap.size < _; omega) (.int .i64 q.rate)
          obtain ⟨b1, b2⟩ := a1.setLow a2 (a := ⟨w.heap.size, 1, none⟩) (by show w.heap.size < _; omega) (.int .i64 q.ch)
          obtain ⟨d1, d2⟩ := b1.setLow b2 (a := ⟨w.heap.size, 2, none⟩) (by show w.heap.size < _; omega) (.int .i64 q.wd)
          obtain ⟨g1, g2⟩ := d1.setLow d2 (a := ⟨w.heap.size, 3, none⟩) (by show w.heap.size < _; omega) (.slice po q.pl.length pc)
          refine ⟨(((j1.setP 0 _).setP 1 _).setP 2 _).setP 3 _, ?_, g1, g2.mono (by omega)⟩
          exact OwnC.mono ((((j2.other (a := ⟨w.heap.size, 0, none⟩) (by show w.heap.size < _; omega) _).other (a := ⟨w.heap.size, 1, none⟩) (by show w.heap.size < _; omega) _).other (a := ⟨w.heap.size, 2, none⟩) (by show w.heap.size < _; omega) _).other (a := ⟨w.heap.size, 3, none⟩) (by show w.heap.size < _; omega) _) (by omega)
        have y0 := HJ8.out.1.p 0 _ rfl
        have y1 := HJ8.out.1.p 1 _ rfl
        have y2 := HJ8.out.1.p 2 _ rfl
        have y3 := HJ8.out.1.p 3 _ rfl
        have yz0 := HJ8.out.1.pz 0
        have yz1 := HJ8.out.1.pz 1
        have yz2 := HJ8.out.1.pz 2
        have yz3 := HJ8.out.1.pz 3
        clear HJ8
        go_wp2_with fail
        generalize ((((w7.setCell ⟨w.heap.size, 0, none⟩ (.int .i64 q.rate)).setCell ⟨w.heap.size, 1, none⟩ (.int .i64 q.ch)).setCell ⟨w.heap.size, 2, none⟩ (.int .i64 q.wd)).setCell ⟨w.heap.size, 3, none⟩ (.slice po q.pl.length pc)) = w9 at *
        have HZ : Hid (Ja7 w (pcmC q po pc) #[.string (opF s), .slice ao (p7L s).length cap] w9) := H9.out.1
        clear y0 y1 y2 y3 yz0 yz1 yz2 yz3
        have p0 := HZ.out.p 0 _ rfl
        have pz0 := HZ.out.pz 0
        have p1 := HZ.out.p 1 _ rfl
        have pz1 := HZ.out.pz 1
        have p2 := HZ.out.p 2 _ rfl
        have pz2 := HZ.out.pz 2
        have p3 := HZ.out.p 3 _ rfl
        have pz3 := HZ.out.pz 3
        have a0 := HZ.out.sk 0 _ rfl
        have az0 := HZ.out.wz 0
        have a1 := HZ.out.sk 1 _ rfl
        have az1 := HZ.out.wz 1
        have HWX := HZ.out.self
        have HWW : Hid _ := HWX
        clear HWX
        go_region
        all_goals go_wp2_with fail
        all_goals (rw [HWW.out]; exact bodyPost_ret (v := .tuple #[.agg (pcmC q po pc), .agg #[.string (opF s), .slice ao (p7L s).length cap], .int .i64 UE]) (res_parse7 rfl (show w9.drew.heap[w.heap.size]? = _ from HZ.out.rp) (show w9.drew.heap[w.heap.size + 1]? = _ from HZ.out.rw') rfl rfl _ _ rfl rfl rfl) rfl ⟨q, po, pc, opF s, ao, (p7L s).length, cap, by rw [HPE4.out], below_on HZ.out.below (belD _), fun _ => ⟨HPP.out.symm, H9.out.2.2.1.below (belD _), H9.out.2.2.2.drew7, rfl, rfl, H9.out.2.1.drew⟩⟩)
      · have hE3n : cut7E (opL s) X I ≠ 0 := by simpa using hE3
        have hE32 : cut7E (opL s) X I = 2 := by
          unfold cut7E at hE3n ⊢
          split
          · rfl
          · rename_i h1
            rw [if_neg h1] at hE3n
            split
            · rfl
            · rename_i h2
              rw [if_neg h2] at hE3n
              exact absurd rfl hE3n
        have HE : Hid (p7E s = 2) := HPE3.out.trans (if_neg hE3n)
        have HN : Hid (¬ ((2 : Int) = 0)) := (by decide : ¬ ((2 : Int) = 0))
        rw [hE32]
        have HZ : Hid (Ja7 w zeroP7 #[.string (opF s), .slice ao (opL s).length cap] w6) := HJ7.out.1
        clear HPE3 hE3n hE32 hE3 HD6 HJ7 HXD HXI HSS
        go_wp2_with fail
        have p0 := HZ.out.p 0 _ rfl
        have pz0 := HZ.out.pz 0
        have p1 := HZ.out.p 1 _ rfl
        have pz1 := HZ.out.pz 1
        have p2 := HZ.out.p 2 _ rfl
        have pz2 := HZ.out.pz 2
        have p3 := HZ.out.p 3 _ rfl
        have pz3 := HZ.out.pz 3
        have a0 := HZ.out.sk 0 _ rfl
        have az0 := HZ.out.wz 0
        have a1 := HZ.out.sk 1 _ rfl
        have az1 := HZ.out.wz 1
        have HWX := HZ.out.self
        have HWW : Hid _ := HWX
        clear HWX
        go_region
        all_goals go_wp2_with fail
        all_goals (rw [HWW.out]; exact bodyPost_ret (v := .tuple #[.agg zeroP7, .agg #[.string (opF s), .slice ao (opL s).length cap], .int .i64 2]) (res_parse7 rfl (show w6.drew.heap[w.heap.size]? = _ from HZ.out.rp) (show w6.drew.heap[w.heap.size + 1]? = _ from HZ.out.rw') rfl rfl _ _ rfl rfl rfl) rfl ⟨⟨0, 0, 0, []⟩, none, 0, (opF s), ao, (opL s).length, cap, by rw [HE.out]; rfl, below_on HZ.out.below (belD _), fun q => absurd (HE.out.symm.trans q) HN.out⟩)
    · have hE2n : lkE (opF s) (opL s) ≠ 0 := by simpa using hE2
      have HN : Hid (¬ lkE (opF s) (opL s) = 0) := hE2n
      have HE : Hid (p7E s = lkE (opF s) (opL s)) := HPE2.out.trans (if_neg hE2n)
      clear HPE2 HLG hE2n HXD HBD
      generalize lkE (opF s) (opL s) = E2 at *
      go_upto_region 6 with fail
      generalize hw5 : World.alloc w4 _ = w5
      have HZ : Hid (Ja7 w zeroP7 #[.string (opF s), .slice ao (opL s).length cap] w5) := by
        rw [← hw5]
        exact HJ5.out.1
      clear hw5 HJ5
      have p0 := HZ.out.p 0 _ rfl
      have pz0 := HZ.out.pz 0
      have p1 := HZ.out.p 1 _ rfl
      have pz1 := HZ.out.pz 1
      have p2 := HZ.out.p 2 _ rfl
      have pz2 := HZ.out.pz 2
      have p3 := HZ.out.p 3 _ rfl
      have pz3 := HZ.out.pz 3
      have a0 := HZ.out.sk 0 _ rfl
      have az0 := HZ.out.wz 0
      have a1 := HZ.out.sk 1 _ rfl
      have az1 := HZ.out.wz 1
      have HWX := HZ.out.self
      have HWW : Hid _ := HWX
      clear HWX
      go_region
      all_goals go_wp2_with fail
      all_goals (rw [HWW.out]; exact bodyPost_ret (v := .tuple #[.agg zeroP7, .agg #[.string (opF s), .slice ao (opL s).length cap], .int .i64 E2]) (res_parse7 rfl (show w5.drew.heap[w.heap.size]? = _ from HZ.out.rp) (show w5.drew.heap[w.heap.size + 1]? = _ from HZ.out.rw') rfl rfl _ _ rfl rfl rfl) rfl ⟨⟨0, 0, 0, []⟩, none, 0, (opF s), ao, (opL s).length, cap, by rw [HE.out]; rfl, below_on HZ.out.below (belD _), fun q => absurd (HE.out.symm.trans q) HN.out⟩)
  · have hEn : opE s ≠ 0 := by simpa using hE
    have HN : Hid (¬ opE s = 0) := hEn
    have HE : Hid (p7E s = opE s) := HPE.out.trans (if_neg hEn)
    clear HPE HOK HO3 hEn
    generalize opE s = E at *
    go_upto_region 3 with fail
    generalize ((w2.setCell ⟨w.heap.size + 1, 0, none⟩ (.string f)).setCell ⟨w.heap.size + 1, 1, none⟩ (.slice ao n cap)) = w3 at *
    clear a0 a1 az0 az1 HJ2
    have p0 := HJ3.out.p 0 _ rfl
    have pz0 := HJ3.out.pz 0
    have p1 := HJ3.out.p 1 _ rfl
    have pz1 := HJ3.out.pz 1
    have p2 := HJ3.out.p 2 _ rfl
    have pz2 := HJ3.out.pz 2
    have p3 := HJ3.out.p 3 _ rfl
    have pz3 := HJ3.out.pz 3
    have a0 := HJ3.out.sk 0 _ rfl
    have az0 := HJ3.out.wz 0
    have a1 := HJ3.out.sk 1 _ rfl
    have az1 := HJ3.out.wz 1
    have HWX := HJ3.out.self
    have HWW : Hid _ := HWX
    clear HWX
    go_region
    all_goals go_wp2_with fail
    all_goals (rw [HWW.out]; exact bodyPost_ret (v := .tuple #[.agg zeroP7, .agg #[.string f, .slice ao n cap], .int .i64 E]) (res_parse7 rfl (show w3.drew.heap[w.heap.size]? = _ from HJ3.out.rp) (show w3.drew.heap[w.heap.size + 1]? = _ from HJ3.out.rw') rfl rfl _ _ rfl rfl rfl) rfl ⟨⟨0, 0, 0, []⟩, none, 0, f, ao, n, cap, by rw [HE.out]; rfl, below_on HJ3.out.below (belD _), fun q => absurd (HE.out.symm.trans q) HN.out⟩)

end Go.Proofs.YtaepgjheknkojaaGreat
