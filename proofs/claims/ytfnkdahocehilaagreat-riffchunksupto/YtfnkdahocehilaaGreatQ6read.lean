/- Own text: the walk of read. -/
import Derived.Test.YtfnkdahocehilaaGreatG28x
namespace Go.Proofs.YtfnkdahocehilaaGreat
open Go.RowKit
set_option linter.unusedSimpArgs false
set_option linter.unusedVariables false

/-- A file's chunks, each taken when it is come to. -/
def readN : Nat → Fst → List Chk → ByteArray → Fst × List Chk × Int
  | 0, f, l, _ => (f, l, endN f)
  | n + 1, f, l, s => if s.size = 0 then (f, l, endN f) else if begB f.z s = true then (if 1024 ≤ l.length then (f, [], 5) else if (takeN f (begC f.z s)).2 = 0 then readN n (takeN f (begC f.z s)).1 (l ++ [bareC (begC f.z s)]) (begR f.z s) else ((takeN f (begC f.z s)).1, [], (takeN f (begC f.z s)).2)) else (f, [], 2)
theorem readN_end (n : Nat) (f : Fst) (l : List Chk) (s : ByteArray) (h : s.size = 0) : readN (n + 1) f l s = (f, l, endN f) := by rw [readN, if_pos h]
theorem readN_bad (n : Nat) (f : Fst) (l : List Chk) (s : ByteArray) (h : ¬ s.size = 0) (hb : begB f.z s = false) : readN (n + 1) f l s = (f, [], 2) := by rw [readN, if_neg h, hb]; rfl
theorem readN_many (n : Nat) (f : Fst) (l : List Chk) (s : ByteArray) (h : ¬ s.size = 0) (hb : begB f.z s = true) (hl : 1024 ≤ l.length) : readN (n + 1) f l s = (f, [], 5) := by rw [readN, if_neg h, if_pos hb, if_pos hl]
theorem readN_no (n : Nat) (f : Fst) (l : List Chk) (s : ByteArray) (h : ¬ s.size = 0) (hb : begB f.z s = true) (hl : ¬ 1024 ≤ l.length) (he : ¬ (takeN f (begC f.z s)).2 = 0) : readN (n + 1) f l s = ((takeN f (begC f.z s)).1, [], (takeN f (begC f.z s)).2) := by rw [readN, if_neg h, if_pos hb, if_neg hl, if_neg he]
theorem readN_step (n : Nat) (f : Fst) (l : List Chk) (s : ByteArray) (h : ¬ s.size = 0) (hb : begB f.z s = true) (hl : ¬ 1024 ≤ l.length) (he : (takeN f (begC f.z s)).2 = 0) : readN (n + 1) f l s = readN n (takeN f (begC f.z s)).1 (l ++ [bareC (begC f.z s)]) (begR f.z s) := by rw [readN, if_neg h, if_pos hb, if_neg hl, if_pos he]
theorem some_ne {a b : Nat} (h : b < a) : some a ≠ some b := fun q => by
  have : a = b := by simpa using q
  omega
theorem bareC_sizes (c : Chk) : (bareC c).id.size ≤ c.id.size ∧ (bareC c).body.size ≤ c.body.size := by
  unfold bareC
  split
  · exact ⟨Nat.le_refl _, Nat.zero_le _⟩
  · exact ⟨Nat.le_refl _, Nat.le_refl _⟩

/-- New memory. -/
def FreshC (B : Nat) (ao : Option Addr) : Prop := ∀ b off, ao = some ⟨b, off, none⟩ → B ≤ b
theorem FreshC.none (B : Nat) : FreshC B none := fun _ _ h => by cases h
theorem ChksAt.own2 {w : World} {B : Nat} {v : Value} {l : List Chk} (h : w.ownsRow B 52 3 v l.length (ccells l)) : ∃ ao cap, v = .slice ao l.length cap ∧ ChksAt w ao l ∧ FreshC B ao := by
  obtain ⟨ao, cap, e, hat⟩ := ChksAt.own h
  refine ⟨ao, cap, e, hat, fun b off q => ?_⟩
  subst q
  exact (h.lt b (by rw [e]; rfl)).1
/-- The file, and a list of chunks that grows. -/
structure Gr (w0 : World) (b : Nat) (f : Fst) (v : Value) (l : List Chk) (w : World) : Prop where
  fa : Fa b f w
  own : w.ownsRow w0.heap.size 52 3 v l.length (ccells l)
  lo : b < w0.heap.size
  but : But b w0 w
theorem Gr.next {w0 w w1 : World} {b : Nat} {f : Fst} {v : Value} {l : List Chk} (h : Gr w0 b f v l w) (hB : Below w.heap.size w w1) : Gr w0 b f v l w1 := ⟨h.fa.next hB, owns_below h.own hB, h.lo, h.but.trans (But.below hB)⟩
theorem Gr.notb {w0 w : World} {b : Nat} {f : Fst} {v : Value} {l : List Chk} (h : Gr w0 b f v l w) : some b ≠ v.ownBlock := fun q => by
  have h1 := (h.own.lt b q.symm).1
  have h2 := h.lo
  omega
theorem Gr.step {w0 w w1 : World} {b : Nat} {f g : Fst} {v : Value} {l : List Chk} (h : Gr w0 b f v l w) (hf : Fa b g w1) (hB : But b w w1) : Gr w0 b g v l w1 :=
  ⟨hf, h.own.kept hB (Or.inr (fun q => h.notb q.symm)), h.lo, h.but.trans hB⟩
theorem Gr.push {w0 w w1 : World} {b : Nat} {f : Fst} {v v' : Value} {l : List Chk} {c : Chk} (h : Gr w0 b f v l w) (ho : w1.ownsRow w0.heap.size 52 3 v' (l.length + 1) (ccells l ++ [.string c.id, .string c.body, .int .i64 c.pad])) (hg : w.grownBy w1 v.ownBlock) : Gr w0 b f v' (l ++ [c]) w1 := by
  refine ⟨⟨by rw [hg.block b h.fa.lt h.notb]; exact h.fa.at'⟩, by rw [ccells_snoc, List.length_append]; exact ho, h.lo, ?_⟩
  refine ⟨hg.os.trans h.but.os, hg.tape.trans h.but.tape, hg.output.trans h.but.output, Nat.le_trans h.but.size hg.size, fun k hk hn => ?_⟩
  rw [hg.block k (Nat.lt_of_lt_of_le hk h.but.size) (fun q => by have := (h.own.lt k q.symm).1; omega)]
  exact h.but.block k hk hn
theorem Gr.shape {w0 w : World} {b : Nat} {f : Fst} {v : Value} {l : List Chk} (h : Gr w0 b f v l w) : ∃ va vc, v = .slice va l.length vc := by
  rcases h.own.2 with ⟨e, e0⟩ | ⟨g, cap, cur, e, _⟩
  · exact ⟨_, _, by rw [e, e0]⟩
  · exact ⟨_, _, e⟩

set_option maxRecDepth 20000 in
set_option maxHeartbeats 6400000 in
theorem read_spec (f : Fst) (s : ByteArray) (b : Nat) (w : World) (hs : s.size ≤ MM) (h : Fa b f w) (hok : OkF f) (hsn : f.seen = 0) (hsm : f.smp.size ≤ MM) :
    Calls Tryz.prog 59 #[.pointer (some ⟨b, 0, none⟩), .string s] w fun e w' => ∃ ao cap, e = .returned (.tuple #[.slice ao (readN (s.size + 1) f [] s).2.1.length cap, .int .i64 (readN (s.size + 1) f [] s).2.2]) ∧ ChksAt w' ao (readN (s.size + 1) f [] s).2.1 ∧ Fa b (readN (s.size + 1) f [] s).1 w' ∧ But b w w' ∧ FreshC w.heap.size ao := by
  have HG0 : Hid (Gr w b f noS [] w) := ⟨h, World.ownsRow_nil _ _ _ _, h.lt, But.refl _ _⟩
  have HOK0 : Hid (OkF f ∧ f.smp.size ≤ MM ∧ f.seen = 0) := ⟨hok, hsm, hsn⟩
  obtain ⟨R, hR⟩ : ∃ R, readN (s.size + 1) f [] s = R := ⟨_, rfl⟩
  have HR0 : Hid (R = readN (s.size + 1) f [] s) := hR.symm
  rw [hR]
  clear hR h hok hsm hsn
  obtain ⟨iK, hK0, hK1, hK2, hK3⟩ := info_parts5 infoK3
  have HIK : Hid (Tryz.prog.info? 52 = some iK ∧ iK.zero = some (.agg zeroK) ∧ iK.size = 3 ∧ iK.bytes = 40) := ⟨hK0, hK1, hK2, hK3⟩
  clear hK0 hK1 hK2 hK3
  go_enter Tryz.func59, Tryz.ntmps59
  go_wp2_with fail
  refine wp_scope_round 0 (fun a' wr => ∃ (s' : ByteArray) (g : Value) (fk : Fst) (acc : List Chk) (fuel : Nat) (u7 u8 u9 u10 u11 u12 u13 u14 u15 u16 u17 u18 u19 u20 u21 u22 u23 u24 u25 u26 u27 u28 u29 u30 u31 u32 u33 u34 u35 u36 u37 u38 u39 u40 u41 : Value), a' = { tmps := #[.pointer (some ⟨b, 0, none⟩), .string s', undef, undef, .slice none 0 0, .int .i64 0, g, u7, u8, u9, u10, u11, u12, u13, u14, u15, u16, u17, u18, u19, u20, u21, u22, u23, u24, u25, u26, u27, u28, u29, u30, u31, u32, u33, u34, u35, u36, u37, u38, u39, u40, u41], defers := [] } ∧ s'.size ≤ MM ∧ s'.size ≤ fuel ∧ acc.length ≤ 1024 ∧ R = readN (fuel + 1) fk acc s' ∧ Gr w b fk g acc wr ∧ OkF fk ∧ fk.smp.size ≤ MM ∧ fk.seen = acc.length) (fun a' _ => strSz (a'.tmps.getD 1 undef)) rfl ?_ ?_
  · rintro a' wr ⟨s', g, fk, acc, fuel, u7, u8, u9, u10, u11, u12, u13, u14, u15, u16, u17, u18, u19, u20, u21, u22, u23, u24, u25, u26, u27, u28, u29, u30, u31, u32, u33, u34, u35, u36, u37, u38, u39, u40, u41, rfl, hs', hf, hal, hR, hg, hok, hsm, hsn⟩
    obtain ⟨va, vc, rfl⟩ := hg.shape
    have HR : Hid (R = readN (fuel + 1) fk acc s') := hR
    have HG : Hid (Gr w b fk (.slice va acc.length vc) acc wr) := hg
    have HOK : Hid (OkF fk ∧ fk.smp.size ≤ MM ∧ fk.seen = acc.length) := ⟨hok, hsm, hsn⟩
    clear hR hg HR0 HG0 HOK0 hok hsm hsn
    by_cases h0 : s'.size = 0
    · have he := isEmpty_true s' h0
      have HE : Hid (R = (fk, acc, endN fk)) := HR.out.trans (readN_end _ _ _ _ h0)
      have ke := end_spec fk b wr HG.out.fa HOK.out.1 HOK.out.2.1
      generalize endN fk = EN at *
      clear HR
      go_wp2_with fail
      refine ke.mono ?_
      rintro e w5 ⟨rfl, hB5⟩
      have HG5 : Hid (Gr w b fk (.slice va acc.length vc) acc w5) := HG.out.next hB5
      obtain ⟨ao, cap, hv, hat, hfr⟩ := ChksAt.own2 HG5.out.own
      have HAT : Hid (ChksAt w5 ao acc) := hat
      have HFR : Hid (FreshC w.heap.size ao) := hfr
      cases hv
      clear hat HG ke hB5 hfr
      go_wp2_with fail
      simp only [Exit.jump]
      go_ret2
      exact ⟨va, vc, by rw [HE.out]; rfl, by rw [HE.out]; exact HAT.out, by rw [HE.out]; exact HG5.out.fa, HG5.out.but, HFR.out⟩
    · have he := isEmpty_false s' (by omega)
      have c0 := HG.out.fa.c 0 _ rfl
      have c1 := HG.out.fa.c 1 _ rfl
      have c2 := HG.out.fa.c 2 _ rfl
      cases hb : begB fk.z s'
      · have ko := begin_no fk.z s' (acc.length : Int) wr hs' hb
        have HE : Hid (R = (fk, [], 2)) := HR.out.trans (readN_bad _ _ _ _ h0 hb)
        clear HR hb
        go_wp2_with fail
        refine ko.mono ?_
        rintro e w2 ⟨rfl, hB⟩
        have HG2 : Hid (Gr w b fk (.slice va acc.length vc) acc (w2.alloc (.cells zeroK 52))) := (HG.out.next hB).next ((Below.refl _ _).alloc (Nat.le_refl _) _)
        clear ko hB c0 c1 c2 HG
        go_wp2_with fail
        simp only [Exit.jump]
        go_ret2
        exact ⟨none, 0, by rw [HE.out]; rfl, by rw [HE.out]; exact ChksAt.nil _ _, by rw [HE.out]; exact HG2.out.fa, HG2.out.but, FreshC.none _⟩
      · by_cases h1024 : 1024 ≤ acc.length
        · have ko := begin_full fk.z s' (acc.length : Int) wr hs' hb (by omega)
          have HE : Hid (R = (fk, [], 5)) := HR.out.trans (readN_many _ _ _ _ h0 hb h1024)
          clear HR hb
          go_wp2_with fail
          refine ko.mono ?_
          rintro e w2 ⟨rfl, hB⟩
          have HG2 : Hid (Gr w b fk (.slice va acc.length vc) acc (w2.alloc (.cells zeroK 52))) := (HG.out.next hB).next ((Below.refl _ _).alloc (Nat.le_refl _) _)
          clear ko hB c0 c1 c2 HG
          go_wp2_with fail
          simp only [Exit.jump]
          go_ret2
          exact ⟨none, 0, by rw [HE.out]; rfl, by rw [HE.out]; exact ChksAt.nil _ _, by rw [HE.out]; exact HG2.out.fa, HG2.out.but, FreshC.none _⟩
        · have ko := begin_yes fk.z s' (acc.length : Int) wr hs' hb (by omega)
          have HY : Hid ((takeN fk (begC fk.z s')).2 = 0 → R = readN fuel (takeN fk (begC fk.z s')).1 (acc ++ [bareC (begC fk.z s')]) (begR fk.z s')) := fun q => HR.out.trans (readN_step _ _ _ _ h0 hb h1024 q)
          have HNO : Hid (¬ (takeN fk (begC fk.z s')).2 = 0 → R = ((takeN fk (begC fk.z s')).1, [], (takeN fk (begC fk.z s')).2)) := fun q => HR.out.trans (readN_no _ _ _ _ h0 hb h1024 q)
          have hrs := begR_size fk.z s' hb
          have hMM : s'.size ≤ 140737488351232 := hs'
          have hcs := begC_sizes fk.z s'
          have kt := fun wx hx => take_spec fk (begC fk.z s') (by have := HOK.out.2.2; omega) (by have := HOK.out.2.2; omega) (by show _ ≤ 140737488351232; omega) b wx hx
          have kb := bare_spec (begC fk.z s')
          have hbs := bareC_sizes (begC fk.z s')
          have kw := own_spec (bareC (begC fk.z s')) (by omega) (by omega)
          have HOK2 : Hid ((takeN fk (begC fk.z s')).2 = 0 → OkF (takeN fk (begC fk.z s')).1) := fun q => takeN_ok fk _ HOK.out.1 q
          have HSM2 : Hid ((takeN fk (begC fk.z s')).1.smp.size ≤ MM) := takeN_smp fk _ MM HOK.out.2.1 (by show _ ≤ 140737488351232; omega)
          have HSE2 : Hid ((takeN fk (begC fk.z s')).1.seen = ((acc.length + 1 : Nat) : Int)) := by
            show _ = _
            rw [takeN_seen, HOK.out.2.2]
            omega
          clear HR hb hcs hbs HOK
          generalize begC fk.z s' = C at *
          generalize begR fk.z s' = X at *
          generalize bareC C = D at *
          generalize (takeN fk C).1 = G at *
          generalize (takeN fk C).2 = E at *
          obtain ⟨fuel', rfl⟩ : ∃ f', fuel = f' + 1 := ⟨fuel - 1, by omega⟩
          go_wp2_with fail
          refine ko.mono ?_
          rintro e w2 ⟨rfl, hB⟩
          have HG2 : Hid (Gr w b fk (.slice va acc.length vc) acc (w2.alloc (.cells (chkC C) 52))) := (HG.out.next hB).next ((Below.refl _ _).alloc (Nat.le_refl _) _)
          have HCB : Hid ((w2.alloc (.cells (chkC C) 52)).heap[w2.heap.size]? = some (.cells (chkC C) 52 (0, 0))) := heap_alloc_new w2 _
          have HLT : Hid (b < w2.heap.size) := (HG.out.next hB).fa.lt
          clear ko hB HG c0 c1 c2
          go_wp2_with fail
          refine (kt _ HG2.out.fa).mono ?_
          rintro e w3 ⟨rfl, hf3, hb3⟩
          have HG3 : Hid (Gr w b G (.slice va acc.length vc) acc w3) := HG2.out.step hf3 hb3
          have HC3 : Hid (w3.heap[w2.heap.size]? = some (.cells (chkC C) 52 (0, 0))) := (hb3.block _ (by simp) (some_ne HLT.out)).trans HCB.out
          clear kt hf3 hb3 HG2 HCB HLT
          cases hE : E != 0
          · have hE0 : E = 0 := by simpa using hE
            have HY2 : Hid (R = readN (fuel' + 1) G (acc ++ [D]) X) := HY.out hE0
            have HO2 : Hid (OkF G) := HOK2.out hE0
            have d0 : w3.cell? ⟨w2.heap.size, 0, none⟩ = some (.string C.id) := by rw [cell_of_row _ _ _ _ _ _ HC3.out]; rfl
            have d1 : w3.cell? ⟨w2.heap.size, 1, none⟩ = some (.string C.body) := by rw [cell_of_row _ _ _ _ _ _ HC3.out]; rfl
            have d2 : w3.cell? ⟨w2.heap.size, 2, none⟩ = some (.int .i64 C.pad) := by rw [cell_of_row _ _ _ _ _ _ HC3.out]; rfl
            clear HY HNO HOK2 hE0
            go_wp2_with fail
            refine (kb _).mono ?_
            rintro e w4 ⟨rfl, hB4⟩
            have HG4 : Hid (Gr w b G (.slice va acc.length vc) acc w4) := HG3.out.next hB4
            clear kb hB4 HG3 d0 d1 d2
            go_wp2_with fail
            refine (kw _).mono ?_
            rintro e w5 ⟨rfl, hB5⟩
            have HG5 : Hid (Gr w b G (.slice va acc.length vc) acc (w5.alloc (.cells (chkC D) 52))) := (HG4.out.next hB5).next ((Below.refl _ _).alloc (Nat.le_refl _) _)
            have HNW : Hid (∀ j u, [Value.string D.id, .string D.body, .int .i64 D.pad][j]? = some u → (w5.alloc (.cells (chkC D) 52)).cell? ((⟨w5.heap.size, 0, none⟩ : Addr).add j) = some u) := fun j u hj => three_cells (w := w5) (e := 52) j u hj
            clear kw hB5 HG4
            go_wp2_with (at_builtin; refine wpList_append_row _ rfl (.tmp 35) (.tmp 39) 22 rfl w.heap.size 52 iK (.agg zeroK) 3 40 Tryz.underlying22 HIK.out.1 HIK.out.2.1 HIK.out.2.2.1 HIK.out.2.2.2 rfl (by decide) (.slice va acc.length vc) acc.length _ rfl HG5.out.own ⟨w5.heap.size, 0, none⟩ 1 1 [.string D.id, .string D.body, .int .i64 D.pad] rfl rfl HNW.out (by simp [Value.oneCell']) (by simp only [maxLen]; omega) (by omega) (Nat.le_trans HG5.out.but.size (Nat.le_refl _)) ?_; intro v6 w6 ho6 hg6)
            have HG6 : Hid (Gr w b G v6 (acc ++ [D]) w6) := HG5.out.push ho6.out hg6.out
            go_step3
            refine ⟨rfl, ⟨X, v6, G, acc ++ [D], fuel', _, _, _, _, _, _, _, _, _, _, _, _, _, _, _, _, _, _, _, _, _, _, _, _, _, _, _, _, _, _, _, _, _, _, _, rfl, by show _ ≤ 140737488351232; omega, by omega, by rw [List.length_append]; simp; omega, HY2.out, HG6.out, HO2.out, HSM2.out, by rw [List.length_append]; exact HSE2.out⟩, ?_⟩
            show X.size < s'.size
            omega
          · have HN2 : Hid (R = (G, [], E)) := HNO.out (by simpa using hE)
            clear HY HNO HOK2
            go_wp2_with fail
            simp only [Exit.jump]
            go_ret2
            exact ⟨none, 0, by rw [HN2.out]; rfl, by rw [HN2.out]; exact ChksAt.nil _ _, by rw [HN2.out]; exact HG3.out.fa, HG3.out.but, FreshC.none _⟩
  · intro hp
    go_wp2_with fail
    go_step3
    rename_i hgo
    refine hgo _ _ ?_
    refine hp _ _ ⟨s, noS, f, [], s.size, _, _, _, _, _, _, _, _, _, _, _, _, _, _, _, _, _, _, _, _, _, _, _, _, _, _, _, _, _, _, _, _, _, _, _, rfl, hs, Nat.le_refl _, by simp, HR0.out, HG0.out, HOK0.out.1, HOK0.out.2.1, by rw [HOK0.out.2.2]; rfl⟩

end Go.Proofs.YtfnkdahocehilaaGreat
