/- Own text: the walk of the document's Parse. -/
import Derived.Test.YtjkamannjgcmiaaDoorR15prsl
import Derived.Deep.CutRange
namespace Go.Proofs.YtjkamannjgcmiaaDoor
open Go.RowKit
set_option linter.unusedSimpArgs false
set_option linter.unusedVariables false

theorem prs_err {f : Nat} {R : List Nat} {P : List Pg} {K : List (List Nat)} {op : Bool} {hd : List Nat} {E : Int} (h0 : ¬ R.length = 0) (h : pgE R P op = E) (hE : E ≠ 0) : prs (f + 1) R P K op hd = (E, [], []) := by
  rw [prs, if_neg h0, h, if_neg hE]
theorem prs_ok {f : Nat} {R : List Nat} {P : List Pg} {K : List (List Nat)} {op : Bool} {hd : List Nat} (h0 : ¬ R.length = 0) (h : pgE R P op = 0) : prs (f + 1) R P K op hd = prs f (R.drop (endN R)) (P ++ [pgN R]) (cutL (laN R) (bdN R) K op hd).1 (cutL (laN R) (bdN R) K op hd).2.1 (cutL (laN R) (bdN R) K op hd).2.2 := by
  rw [prs, if_neg h0, h, if_pos rfl]
theorem pgE_one {R : List Nat} {P : List Pg} {op : Bool} (h : ¬ oneOk R) : pgE R P op = 2 := by unfold pgE; rw [if_pos h]
theorem pgE_max {R : List Nat} {P : List Pg} {op : Bool} (h : oneOk R) (h1 : P.length = 65536) : pgE R P op = 5 := by unfold pgE; rw [if_neg (fun q => q h), if_pos h1]
theorem pgE_ser {R : List Nat} {P : List Pg} {op : Bool} (h : oneOk R) (h1 : ¬ P.length = 65536) (h2 : ¬ serOk R P) : pgE R P op = 3 := by unfold pgE; rw [if_neg (fun q => q h), if_neg h1, if_pos h2]
theorem pgE_ord {R : List Nat} {P : List Pg} {op : Bool} (h : oneOk R) (h1 : ¬ P.length = 65536) (h2 : serOk R P) (h3 : ¬ ordOk R P op) : pgE R P op = 2 := by unfold pgE; rw [if_neg (fun q => q h), if_neg h1, if_neg (fun q => q h2), if_pos h3]
theorem pgE_ok {R : List Nat} {P : List Pg} {op : Bool} (h : oneOk R) (h1 : ¬ P.length = 65536) (h2 : serOk R P) (h3 : ordOk R P op) : pgE R P op = 0 := by unfold pgE; rw [if_neg (fun q => q h), if_neg h1, if_neg (fun q => q h2), if_neg (fun q => q h3)]
theorem pg_new (w : World) (p : Pg) (ap : Option Addr) (pc : Nat) : ∀ j u, (pgC p ap pc)[j]? = some u → (w.alloc (.cells #[.int .i64 p.fl, .int .i64 p.se, .int .i64 p.sq, .int .i64 p.gr, .slice ap p.la.length pc] 49)).cell? ((⟨w.heap.size, 0, none⟩ : Addr).add j) = some u := by
  intro j u hj
  rw [Addr.add_mid, Nat.zero_add, cell_of_row _ _ _ _ _ _ (heap_alloc_new w _)]
  simpa using hj
theorem beq_eq_decide_int (n : Nat) : ((n : Int) == 0) = decide (n = 0) := by
  rw [Bool.eq_iff_iff, beq_iff_eq, decide_eq_true_iff]
  omega
/-- Where the packets' cutting stands. -/
structure CI (lx bd : List Nat) (K : List ByteArray) (op : Bool) (hd : ByteArray) (j : Nat) (K2 : List ByteArray) (op2 : Bool) (hd2 B2 : ByteArray) : Prop where
  cut : cutL lx bd (K.map bytesOf) op (bytesOf hd) = cutL (lx.drop j) (bytesOf B2) (K2.map bytesOf) op2 (bytesOf hd2)
  sum : B2.size = (lx.drop j).sum
theorem ext_parts (B : ByteArray) (x : Nat) (h : x ≤ B.size) : bytesOf (B.extract 0 x) = (bytesOf B).take x ∧ bytesOf (B.extract x B.size) = (bytesOf B).drop x := by
  refine ⟨by rw [bytesOf_ext]; exact seg_all _ _, ?_⟩
  rw [bytesOf_ext]
  unfold seg
  rw [List.take_of_length_le (by rw [bytesOf_length]; exact Nat.le_refl _)]
theorem CI.step {lx bd : List Nat} {K : List ByteArray} {op : Bool} {hd : ByteArray} {j : Nat} {K2 : List ByteArray} {op2 : Bool} {hd2 B2 : ByteArray} (h : CI lx bd K op hd j K2 op2 hd2 B2) (hj : j < lx.length) :
    lx.getD j 0 ≤ B2.size ∧ (lx.getD j 0 = 255 → CI lx bd K op hd (j + 1) K2 true (hd2 ++ B2.extract 0 (lx.getD j 0)) (B2.extract (lx.getD j 0) B2.size)) ∧ (¬ lx.getD j 0 = 255 → CI lx bd K op hd (j + 1) (K2 ++ [hd2 ++ B2.extract 0 (lx.getD j 0)]) false ⟨#[]⟩ (B2.extract (lx.getD j 0) B2.size)) := by
  obtain ⟨h1, h2⟩ := h
  have e : lx.drop j = lx.getD j 0 :: lx.drop (j + 1) := by
    rw [List.drop_eq_getElem_cons hj, List.getD_eq_getElem?_getD, List.getElem?_eq_getElem hj]
    rfl
  rw [e] at h1 h2
  generalize lx.getD j 0 = x at *
  rw [List.sum_cons] at h2
  have hx : x ≤ B2.size := by omega
  obtain ⟨g1, g2⟩ := ext_parts B2 x hx
  have hs : (B2.extract x B2.size).size = (lx.drop (j + 1)).sum := by rw [ext_len B2 x _ hx (Nat.le_refl _)]; omega
  rw [cutL] at h1
  refine ⟨hx, fun q => ⟨?_, hs⟩, fun q => ⟨?_, hs⟩⟩
  · rw [if_pos q] at h1
    rw [h1, g2, S2.bytesOf_append, g1]
  · rw [if_neg q] at h1
    rw [h1, g2, List.map_append, List.map_singleton, S2.bytesOf_append, g1]
    rfl
theorem CI.fin {lx bd : List Nat} {K : List ByteArray} {op : Bool} {hd : ByteArray} {j : Nat} {K2 : List ByteArray} {op2 : Bool} {hd2 B2 : ByteArray} (h : CI lx bd K op hd j K2 op2 hd2 B2) (hj : lx.length ≤ j) :
    cutL lx bd (K.map bytesOf) op (bytesOf hd) = (K2.map bytesOf, op2, bytesOf hd2) := by
  rw [h.cut, List.drop_of_length_le hj]
  rfl

set_option maxRecDepth 20000 in
set_option maxHeartbeats 3200000 in
theorem xparse_any (s : ByteArray) (hs : s.size ≤ 140737488351232) (w : World) : Calls Tryd.prog 9 #[.string s] w fun e w' => PrsE (prsP (bytesOf s)) e w' ∧ Below w.heap.size w w' := by
  have HX0 : Hid (XQ w w [] noS [] noS) := XQ.nil w
  obtain ⟨iS, hS0, hS1, hS2, hS3⟩ := info_parts5 info9
  have HIS : Hid (Tryd.prog.info? 9 = some iS ∧ iS.zero = some (.string ⟨#[]⟩) ∧ iS.size = 1 ∧ iS.bytes = 16) := ⟨hS0, hS1, hS2, hS3⟩
  obtain ⟨iP, hP0, hP1, hP2, hP3⟩ := info_parts5 info_page4
  have HIP : Hid (Tryd.prog.info? 49 = some iP ∧ iP.zero = some (.agg zeroP) ∧ iP.size = 5 ∧ iP.bytes = 56) := ⟨hP0, hP1, hP2, hP3⟩
  have KO : Hid (∀ t : ByteArray, t.size ≤ 140737488351232 → ∀ wx, Calls Tryd.prog 26 #[.string t] wx fun e w' => OneE wx.heap.size t e w' ∧ Below wx.heap.size wx w') := fun t ht wx => xone_any t ht wx
  clear hS0 hS1 hS2 hS3 hP0 hP1 hP2 hP3
  by_cases h0 : s.size = 0
  · have hse : s = ⟨#[]⟩ := by apply bytes_inj; apply List.eq_nil_of_length_eq_zero; rw [bytesOf_length]; exact h0
    subst hse
    have HE : Hid (prsP (bytesOf ⟨#[]⟩) = (2, [], [])) := rfl
    clear h0
    go_enter Tryd.func9, Tryd.ntmps9
    go_wp2_with fail
    go_ret3
    exact ⟨PrsE.bad HE.out _, Below.refl _ _⟩
  · have hne : s.toList.isEmpty = false := by
      rw [ByteArray.toList_eq]
      cases hh : s.data.toList with
      | nil => exact absurd (by have := congrArg List.length hh; simpa using this) h0
      | cons a t => rfl
    have hne2 : (s.toList == ([] : List UInt8)) = false := by
      cases hq : s.toList with
      | nil => rw [hq] at hne; cases hne
      | cons a t => rfl
    have HPS0 : Hid (prsP (bytesOf s) = prs (s.size + 1) ((bytesOf s).drop 0) (([] : List QP).map Prod.fst) (([] : List ByteArray).map bytesOf) false (bytesOf ⟨#[]⟩)) := by
      show _ = _
      unfold prsP
      rw [if_neg (by rw [bytesOf_length]; exact h0), bytesOf_length]
      rfl
    go_enter Tryd.func9, Tryd.ntmps9
    go_wp2_with fail
    clear hne hne2 h0
    go_loopw [5, 6, 7, 8, 9] (fun s5 s6 s7 s8 s9 wr => ∃ (f a : Nat) (Q : List QP) (K : List ByteArray) (op : Bool) (hd : ByteArray), s9 = .int .i64 (a : Int) ∧ s7 = .bool op ∧ s8 = .string hd ∧ a ≤ s.size ∧ hd.size ≤ a ∧ Q.length ≤ 65536 ∧ K.length ≤ 255 * Q.length ∧ XQ w wr Q s5 K s6 ∧ s.size - a < f ∧ prsP (bytesOf s) = prs f ((bytesOf s).drop a) (Q.map Prod.fst) (K.map bytesOf) op (bytesOf hd) ∧ (∀ q ∈ Q, ∃ fl : Nat, q.1.fl = (fl : Int) ∧ fl ≤ 7)) (fun _ _ _ _ s9 _ => s.size - (intOf s9).toNat)
    case atStart => exact ⟨s.size + 1, 0, [], [], false, ⟨#[]⟩, rfl, rfl, rfl, Nat.zero_le _, Nat.zero_le _, Nat.zero_le _, Nat.zero_le _, HX0.out, by omega, HPS0.out, fun q hq => by simp at hq⟩
    case round =>
      clear HX0 HPS0
      obtain ⟨f, a, Q, K, op, hd, rfl, rfl, rfl, ha, hda, hQ, hKa, hx, hf, hp, hfl0⟩ := hrel
      have HFL0 := hid hfl0
      clear hfl0
      obtain ⟨a5, c5, ev⟩ := owns_sl hx.own5
      subst ev
      obtain ⟨a6, c6, ev⟩ := owns_sl hx.own6
      subst ev
      have HX := hid hx
      have HP := hid hp
      clear hx hp
      by_cases hlt : a < s.size
      · have hTsz : (s.extract a s.size).size = s.size - a := ext_len s a s.size ha (Nat.le_refl _)
        have hslT := slice_from s a ha
        have HTB : Hid (bytesOf (s.extract a s.size) = (bytesOf s).drop a) := (ext_parts s a ha).2
        obtain ⟨f1, rfl⟩ : ∃ f1, f = f1 + 1 := ⟨f - 1, by omega⟩
        have HPS : Hid (prsP (bytesOf s) = prs (f1 + 1) (bytesOf (s.extract a s.size)) (Q.map Prod.fst) (K.map bytesOf) op (bytesOf hd)) := by
          show _ = _
          rw [HTB.out]
          exact HP.out
        have HR0 : Hid (¬ (bytesOf (s.extract a s.size)).length = 0) := by
          show ¬ _
          rw [bytesOf_length, hTsz]
          omega
        have ko := KO.out (s.extract a s.size) (by omega) wr
        clear HP KO
        generalize s.extract a s.size = T at *
        go_wp2_with fail
        refine ko.mono ?_
        rintro e w2 ⟨h1, hb2⟩
        have HB2 := hid hb2
        clear ko hb2 hslT
        by_cases hone : oneOk (bytesOf T)
        · obtain ⟨ap, pc, he, hpg, hfr⟩ := h1.1 hone
          have hbT := bytesOf_length T
          obtain ⟨fo1, fo2, fo3⟩ := fields_ok (bytesOf T) (bytesOf_lt T) hone
          obtain ⟨en, hen⟩ : ∃ en, en = endN (bytesOf T) := ⟨_, rfl⟩
          obtain ⟨B, hB⟩ : ∃ B, B = T.extract (27 + u8 (bytesOf T) 26) (endN (bytesOf T)) := ⟨_, rfl⟩
          obtain ⟨lx, hlx⟩ : ∃ lx, lx = laN (bytesOf T) := ⟨_, rfl⟩
          obtain ⟨fl, hfl⟩ : ∃ fl, fl = u8 (bytesOf T) 5 := ⟨_, rfl⟩
          obtain ⟨p, hp⟩ : ∃ p, p = pgN (bytesOf T) := ⟨_, rfl⟩
          have hpf : p.fl = (fl : Int) := by rw [hp, hfl]; rfl
          have hf7 : fl ≤ 7 := by rw [hfl]; exact hone.2.2.1
          have HF1 : Hid (∃ fl : Nat, p.fl = (fl : Int) ∧ fl ≤ 7) := ⟨fl, hpf, hf7⟩
          have hpl : p.la = lx.map (fun x : Nat => (x : Int)) := by rw [hp, hlx]; rfl
          have hlxl : lx.length = u8 (bytesOf T) 26 := by rw [hlx]; unfold laN; rw [seg_length _ _ _ hone.2.2.2.1]; omega
          have HLX : Hid (p.la.length = lx.length ∧ (∀ j, j < lx.length → p.la.getD j 0 = (lx.getD j 0 : Int)) ∧ (∀ j, j < lx.length → lx.getD j 0 ≤ 255)) := by
            refine ⟨by rw [hpl, List.length_map], fun j hj => ?_, fun j hj => ?_⟩
            · rw [hpl, List.getD_eq_getElem?_getD, List.getElem?_map, List.getD_eq_getElem?_getD, List.getElem?_eq_getElem hj]
              rfl
            · rw [List.getD_eq_getElem?_getD, List.getElem?_eq_getElem hj]
              have hm : lx[j] ∈ laN (bytesOf T) := by rw [← hlx]; exact List.getElem_mem hj
              have := bytesOf_lt T _ (seg_mem hm)
              show lx[j] ≤ 255
              omega
          have hl255 : lx.length ≤ 255 := by
            rw [hlxl]
            have := bytesOf_lt T (u8 (bytesOf T) 26) (by unfold u8; rw [List.getD_eq_getElem?_getD, List.getElem?_eq_getElem (by have := hone.1; omega)]; exact List.getElem_mem _)
            omega
          have hen27 : 27 ≤ en := by rw [hen]; unfold endN; omega
          have hpll : p.la.length ≤ 255 := by rw [HLX.out.1]; exact hl255
          have hens : en ≤ s.size - a := by rw [hen, ← hTsz, ← hbT]; exact hone.2.2.2.2.1
          have henv : en = 27 + lx.length + lx.sum := by rw [hen, hlxl, hlx]; rfl
          have HBB : Hid (bytesOf B = bdN (bytesOf T)) := by show _ = _; rw [hB, bytesOf_ext]; rfl
          have hBz : B.size = lx.sum := by
            rw [← bytesOf_length, HBB.out, fo3, hlx]
            show (natL ((laN (bytesOf T)).map fun x : Nat => (x : Int))).sum = _
            rw [int_nat]
          have HSQ : Hid ((p.sq = ((Q.map Prod.fst).length : Int) ↔ p.sq = (Q.length : Int)) ∧ p.se = (pgN (bytesOf T)).se ∧ p.sq = (pgN (bytesOf T)).sq ∧ p = pgN (bytesOf T) ∧ en = endN (bytesOf T) ∧ lx = laN (bytesOf T) ∧ fl = u8 (bytesOf T) 5) := ⟨by rw [List.length_map], by rw [hp], by rw [hp], hp, hen, hlx, hfl⟩
          have HONE := hid hone
          have he' : e = .returned (.tuple #[.agg #[.int .i64 p.fl, .int .i64 p.se, .int .i64 p.sq, .int .i64 p.gr, .slice ap p.la.length pc], .string B, .int .i64 (en : Int), .bool true]) := by rw [he, hp, hB, hen]
          rw [← hp] at hpg
          have HY0 : Hid (YQ w (w2.alloc (.cells #[.int .i64 p.fl, .int .i64 p.se, .int .i64 p.sq, .int .i64 p.gr, .slice ap p.la.length pc] 49)) Q (.slice a5 Q.length c5) K (.slice a6 K.length c6) w2.heap.size (p, ap, pc)) := HX.out.take (q := (p, ap, pc)) HB2.out hpg hfr
          have HLE : Hid (lx.length ≤ en) := by show _ ≤ _; omega
          have HCI : Hid (CI lx (bdN (bytesOf T)) K op hd 0 K op hd B) := ⟨by rw [HBB.out]; rfl, hBz⟩
          have HSZ : Hid (hd.size + B.size ≤ a + en) := by show _ ≤ _; omega
          obtain ⟨bd, hbd⟩ : ∃ bd, bd = bdN (bytesOf T) := ⟨_, rfl⟩
          have HNX0 : Hid (pgE (bytesOf T) (Q.map Prod.fst) op = 0 → ∀ (K2 : List ByteArray) (op2 : Bool) (hd2 : ByteArray), cutL lx bd (K.map bytesOf) op (bytesOf hd) = (K2.map bytesOf, op2, bytesOf hd2) → prsP (bytesOf s) = prs f1 ((bytesOf s).drop (a + en)) ((Q ++ [(p, ap, pc)]).map Prod.fst) (K2.map bytesOf) op2 (bytesOf hd2)) := fun hz K2 op2 hd2 hc => by
            rw [HPS.out, prs_ok HR0.out hz, ← hlx, ← hbd, hc, ← hen, ← hp, HTB.out, List.drop_drop, List.map_append]
            rfl
          rw [← hbd] at HCI
          have hand2 := and_small 2 fl (.inr (.inl rfl)) hf7
          have hand1 := and_small 1 fl (.inl rfl) hf7
          obtain ⟨y2, hy2⟩ : ∃ y2, y2 = fl / (2 : Int).toNat % 2 * (2 : Int).toNat := ⟨_, rfl⟩
          obtain ⟨y1, hy1⟩ : ∃ y1, y1 = fl / (1 : Int).toNat % 2 * (1 : Int).toNat := ⟨_, rfl⟩
          rw [← hy2, ← hpf] at hand2
          rw [← hy1, ← hpf] at hand1
          have hy2' : y2 = fl / 2 % 2 * 2 := hy2
          have hy1' : y1 = fl / 1 % 2 * 1 := hy1
          have HYY : Hid (((y2 : Int) != 0) = decide (fl / 2 % 2 = 1) ∧ ((y1 : Int) != 0) = decide (fl % 2 = 1)) := by
            constructor
            · rw [Bool.eq_iff_iff, bne_iff_ne, decide_eq_true_iff]; omega
            · rw [Bool.eq_iff_iff, bne_iff_ne, decide_eq_true_iff]; omega
          have henb : en ≤ 140737488351232 := by omega
          subst he'
          clear he h1 hone hpg hfr fo1 fo2 fo3 hen hB hlx hfl hp hpl hlxl hbd hBz hy2 hy1 hy2' hy1' hpf hbT hTsz henv HTB HBB HB2 HX hf7
          by_cases h65 : Q.length = 65536
          · have h65b : ((Q.length : Int) == 65536) = true := by rw [beq_iff_eq]; omega
            have H65 := hid h65
            have HYB := hid HY0.out.xq.bl
            clear h65 hand1 hand2 HY0 HCI HSZ HNX0
            have HE : Hid (prsP (bytesOf s) = (5, [], [])) := HPS.out.trans (prs_err HR0.out (pgE_max HONE.out (by rw [List.length_map]; exact H65.out)) (by decide))
            go_wp2_with fail
            go_ret3
            exact ⟨PrsE.bad HE.out _, HYB.out⟩
          · have h65b : ((Q.length : Int) == 65536) = false := by rw [beq_eq_false_iff_ne]; omega
            have H65 : Hid (¬ (Q.map Prod.fst).length = 65536) := by show ¬ _; rw [List.length_map]; exact h65
            have hQ5 : Q.length ≤ 65535 := by omega
            clear h65
            obtain ⟨sb, hsb⟩ : ∃ sb : Bool, (sb = true ↔ ¬ serOk (bytesOf T) (Q.map Prod.fst)) := ⟨decide (¬ serOk (bytesOf T) (Q.map Prod.fst)), by rw [decide_eq_true_iff]⟩
            have HSB := hid hsb
            clear hsb
            go_upto_region 14 with fail
            clear h65b
            obtain ⟨g, hg⟩ : ∃ g, g = w2.heap.size := ⟨_, rfl⟩
            rw [← hg]
            rw [← hg] at HY0
            clear hg
            generalize World.alloc w2 _ = w3 at *
            have x1 := HY0.out.bx.c 1 (.int .i64 p.se) rfl
            go_cut [47] from 36 to 46 (fun s47 wx => s47 = .bool sb ∧ YQ w wx Q (.slice a5 Q.length c5) K (.slice a6 K.length c6) g (p, ap, pc))
            case first =>
              by_cases hq0 : Q.length = 0
              · have hqd : decide ((0 : Int) < (Q.length : Int)) = false := decide_eq_false (by omega)
                have HSF : Hid (sb = false) := by
                  cases sb
                  · rfl
                  · exact absurd (.inl (by rw [List.length_map]; exact hq0)) (HSB.out.1 rfl)
                have HQE : Hid (Q = []) := List.eq_nil_of_length_eq_zero hq0
                clear hq0 hqd
                refine wp_region_held_drew (S := fun wx => Hid (Below w3.heap.size w3 wx)) (by kernel_rfl) (hid (below_drew _)) (fun hS => ?_)
                refine wpAnyH_take (i := 0) (v := .slice a5 Q.length c5) rfl (by kernel_rfl) (by kernel_rfl) (by kernel_rfl) (fun _ _ _ h => h) (Or.inl ⟨by rfl, fun w hSw => by go_simp⟩) hS ?_
                simp only [Act.put, List.getElem_toArray, List.getElem_cons_succ, List.getElem_cons_zero, List.setIfInBounds_toArray, List.set_cons_zero, List.set_cons_succ]
                refine wpAnyH_take (i := 1) (v := .int .i64 (Q.length : Int)) rfl (by kernel_rfl) (by kernel_rfl) (by kernel_rfl) (fun _ _ _ h => h) (Or.inl ⟨by rfl, fun w hSw => by go_simp⟩) hS ?_
                simp only [Act.put, List.getElem_toArray, List.getElem_cons_succ, List.getElem_cons_zero, List.setIfInBounds_toArray, List.set_cons_zero, List.set_cons_succ]
                refine wpAnyH_take (i := 2) (v := .bool false) rfl (by kernel_rfl) (by kernel_rfl) (by kernel_rfl) (fun _ _ _ h => h) (Or.inl ⟨by rfl, fun w hSw => by go_simp <;> exact HQE.out⟩) hS ?_
                simp only [Act.put, List.getElem_toArray, List.getElem_cons_succ, List.getElem_cons_zero, List.setIfInBounds_toArray, List.set_cons_zero, List.set_cons_succ]
                refine wpAnyH_take (i := 3) (v := .bool false) rfl (by kernel_rfl) (by kernel_rfl) (by kernel_rfl) (fun _ _ _ h => h) (Or.inl ⟨by rfl, fun w hSw => by go_simp⟩) hS ?_
                simp only [Act.put, List.getElem_toArray, List.getElem_cons_succ, List.getElem_cons_zero, List.setIfInBounds_toArray, List.set_cons_zero, List.set_cons_succ]
                refine wpAnyH_take (i := 4) (v := undef) rfl (by kernel_rfl) (by kernel_rfl) (by kernel_rfl) (fun _ _ _ h => h) (Or.inr ⟨by rfl, rfl⟩) hS ?_
                simp only [Act.put, List.getElem_toArray, List.getElem_cons_succ, List.getElem_cons_zero, List.setIfInBounds_toArray, List.set_cons_zero, List.set_cons_succ]
                refine wpAnyH_take (i := 5) (v := undef) rfl (by kernel_rfl) (by kernel_rfl) (by kernel_rfl) (fun _ _ _ h => h) (Or.inr ⟨by rfl, rfl⟩) hS ?_
                simp only [Act.put, List.getElem_toArray, List.getElem_cons_succ, List.getElem_cons_zero, List.setIfInBounds_toArray, List.set_cons_zero, List.set_cons_succ]
                refine wpAnyH_take (i := 6) (v := undef) rfl (by kernel_rfl) (by kernel_rfl) (by kernel_rfl) (fun _ _ _ h => h) (Or.inr ⟨by rfl, rfl⟩) hS ?_
                simp only [Act.put, List.getElem_toArray, List.getElem_cons_succ, List.getElem_cons_zero, List.setIfInBounds_toArray, List.set_cons_zero, List.set_cons_succ]
                refine wpAnyH_take (i := 7) (v := undef) rfl (by kernel_rfl) (by kernel_rfl) (by kernel_rfl) (fun _ _ _ h => h) (Or.inr ⟨by rfl, rfl⟩) hS ?_
                simp only [Act.put, List.getElem_toArray, List.getElem_cons_succ, List.getElem_cons_zero, List.setIfInBounds_toArray, List.set_cons_zero, List.set_cons_succ]
                refine wpAnyH_take (i := 8) (v := undef) rfl (by kernel_rfl) (by kernel_rfl) (by kernel_rfl) (fun _ _ _ h => h) (Or.inr ⟨by rfl, rfl⟩) hS ?_
                simp only [Act.put, List.getElem_toArray, List.getElem_cons_succ, List.getElem_cons_zero, List.setIfInBounds_toArray, List.set_cons_zero, List.set_cons_succ]
                refine wpAnyH_take (i := 9) (v := undef) rfl (by kernel_rfl) (by kernel_rfl) (by kernel_rfl) (fun _ _ _ h => h) (Or.inr ⟨by rfl, rfl⟩) hS ?_
                simp only [Act.put, List.getElem_toArray, List.getElem_cons_succ, List.getElem_cons_zero, List.setIfInBounds_toArray, List.set_cons_zero, List.set_cons_succ]
                refine wpAnyH_take (i := 10) (v := undef) rfl (by kernel_rfl) (by kernel_rfl) (by kernel_rfl) (fun _ _ _ h => h) (Or.inr ⟨by rfl, rfl⟩) hS ?_
                simp only [Act.put, List.getElem_toArray, List.getElem_cons_succ, List.getElem_cons_zero, List.setIfInBounds_toArray, List.set_cons_zero, List.set_cons_succ]
                refine wpAnyH_take (i := 11) (v := .bool false) rfl (by kernel_rfl) (by kernel_rfl) (by kernel_rfl) (fun _ _ _ h => h) (Or.inl ⟨by rfl, fun w hSw => by go_simp⟩) hS ?_
                simp only [Act.put, List.getElem_toArray, List.getElem_cons_succ, List.getElem_cons_zero, List.setIfInBounds_toArray, List.set_cons_zero, List.set_cons_succ]
                refine wpAnyH_done (by kernel_rfl) ?_ _
                go_wp2_with fail
                go_meet
                exact ⟨by rw [HSF.out], HY0.out.low (below_drew _)⟩
              · obtain ⟨q0, hq0e⟩ : ∃ q, Q[0]? = some q := ⟨_, List.getElem?_eq_getElem (by omega)⟩
                obtain ⟨bp, cp, ep, hpp, h8⟩ := HY0.out.xq.pages
                clear h8
                obtain ⟨b1, o1, e1, a1, c1, h9, q1⟩ := hpp.at 0 q0.1 (by rw [List.getElem?_map, hq0e]; rfl)
                injection ep with ep1 ep2 ep3
                have y1' : w3.cell? ⟨b1, o1 + 1, none⟩ = some (.int .i64 q0.1.se) := by have := (q1 w3 (Below.refl _ _)).2.1; rw [Nat.zero_mul, Nat.add_zero] at this; exact this
                rw [e1] at ep1
                subst ep1
                have HSE2 : Hid (sb = (p.se != q0.1.se)) := by
                  show _ = _
                  rw [Bool.eq_iff_iff, HSB.out, bne_iff_ne]
                  have e2 : (Q.map Prod.fst).getD 0 Pg0 = q0.1 := by rw [List.getD_eq_getElem?_getD, List.getElem?_map, hq0e]; rfl
                  show ¬ ((Q.map Prod.fst).length = 0 ∨ (pgN (bytesOf T)).se = ((Q.map Prod.fst).getD 0 Pg0).se) ↔ _
                  rw [e2, ← HSQ.out.2.1, List.length_map]
                  exact ⟨fun h q => h (.inr q), fun h q => by
                    rcases q with q | q
                    · exact hq0 q
                    · exact h q⟩
                have hqd : decide ((0 : Int) < (Q.length : Int)) = true := decide_eq_true (by omega)
                have hqi : (0 : Int) < (Q.length : Int) := by omega
                generalize q0.1.se = se0 at *
                have HQL : Hid (0 < Q.length) := by show 0 < _; omega
                have HQN : Hid (¬ Q = []) := fun q => hq0 (by rw [q]; rfl)
                clear hq0 hq0e hpp h9 q1 ep3 e1 ep2 hqd hqi
                refine wp_region_held_drew (S := fun wx => Hid (wx.cell? ⟨g, 1, none⟩ = some (.int .i64 p.se) ∧ wx.cell? ⟨b1, o1 + 1, none⟩ = some (.int .i64 se0))) (by kernel_rfl) (hid ⟨x1, y1'⟩) (fun hS => ?_)
                refine wpAnyH_take (i := 0) (v := .slice (some ⟨b1, o1, none⟩) Q.length c5) rfl (by kernel_rfl) (by kernel_rfl) (by kernel_rfl) (fun _ _ _ h => h) (Or.inl ⟨by rfl, fun w hSw => by go_simp⟩) hS ?_
                simp only [Act.put, List.getElem_toArray, List.getElem_cons_succ, List.getElem_cons_zero, List.setIfInBounds_toArray, List.set_cons_zero, List.set_cons_succ]
                refine wpAnyH_take (i := 1) (v := .int .i64 (Q.length : Int)) rfl (by kernel_rfl) (by kernel_rfl) (by kernel_rfl) (fun _ _ _ h => h) (Or.inl ⟨by rfl, fun w hSw => by go_simp⟩) hS ?_
                simp only [Act.put, List.getElem_toArray, List.getElem_cons_succ, List.getElem_cons_zero, List.setIfInBounds_toArray, List.set_cons_zero, List.set_cons_succ]
                refine wpAnyH_take (i := 2) (v := .bool true) rfl (by kernel_rfl) (by kernel_rfl) (by kernel_rfl) (fun _ _ _ h => h) (Or.inl ⟨by rfl, fun w hSw => by go_simp <;> exact HQL.out⟩) hS ?_
                simp only [Act.put, List.getElem_toArray, List.getElem_cons_succ, List.getElem_cons_zero, List.setIfInBounds_toArray, List.set_cons_zero, List.set_cons_succ]
                refine wpAnyH_take (i := 3) (v := .bool true) rfl (by kernel_rfl) (by kernel_rfl) (by kernel_rfl) (fun _ _ _ h => h) (Or.inl ⟨by rfl, fun w hSw => by go_simp⟩) hS ?_
                simp only [Act.put, List.getElem_toArray, List.getElem_cons_succ, List.getElem_cons_zero, List.setIfInBounds_toArray, List.set_cons_zero, List.set_cons_succ]
                refine wpAnyH_take (i := 4) (v := .pointer (some ⟨g, 1, none⟩)) rfl (by kernel_rfl) (by kernel_rfl) (by kernel_rfl) (fun _ _ _ h => h) (Or.inl ⟨by rfl, fun w hSw => by go_simp⟩) hS ?_
                simp only [Act.put, List.getElem_toArray, List.getElem_cons_succ, List.getElem_cons_zero, List.setIfInBounds_toArray, List.set_cons_zero, List.set_cons_succ]
                refine wpAnyH_take (i := 5) (v := .int .i64 p.se) rfl (by kernel_rfl) (by kernel_rfl) (by kernel_rfl) (fun _ _ _ h => h) (Or.inl ⟨by rfl, fun w hSw => by obtain ⟨z1, z2⟩ := hSw.out; go_simp⟩) hS ?_
                simp only [Act.put, List.getElem_toArray, List.getElem_cons_succ, List.getElem_cons_zero, List.setIfInBounds_toArray, List.set_cons_zero, List.set_cons_succ]
                refine wpAnyH_take (i := 6) (v := .slice (some ⟨b1, o1, none⟩) Q.length c5) rfl (by kernel_rfl) (by kernel_rfl) (by kernel_rfl) (fun _ _ _ h => h) (Or.inl ⟨by rfl, fun w hSw => by go_simp⟩) hS ?_
                simp only [Act.put, List.getElem_toArray, List.getElem_cons_succ, List.getElem_cons_zero, List.setIfInBounds_toArray, List.set_cons_zero, List.set_cons_succ]
                refine wpAnyH_take (i := 7) (v := .pointer (some ⟨b1, o1, none⟩)) rfl (by kernel_rfl) (by kernel_rfl) (by kernel_rfl) (fun _ _ _ h => h) (Or.inl ⟨by rfl, fun w hSw => by go_simp <;> (intro q; exact absurd q HQN.out)⟩) hS ?_
                simp only [Act.put, List.getElem_toArray, List.getElem_cons_succ, List.getElem_cons_zero, List.setIfInBounds_toArray, List.set_cons_zero, List.set_cons_succ]
                refine wpAnyH_take (i := 8) (v := .pointer (some ⟨b1, o1 + 1, none⟩)) rfl (by kernel_rfl) (by kernel_rfl) (by kernel_rfl) (fun _ _ _ h => h) (Or.inl ⟨by rfl, fun w hSw => by go_simp⟩) hS ?_
                simp only [Act.put, List.getElem_toArray, List.getElem_cons_succ, List.getElem_cons_zero, List.setIfInBounds_toArray, List.set_cons_zero, List.set_cons_succ]
                refine wpAnyH_take (i := 9) (v := .int .i64 se0) rfl (by kernel_rfl) (by kernel_rfl) (by kernel_rfl) (fun _ _ _ h => h) (Or.inl ⟨by rfl, fun w hSw => by obtain ⟨z1, z2⟩ := hSw.out; go_simp⟩) hS ?_
                simp only [Act.put, List.getElem_toArray, List.getElem_cons_succ, List.getElem_cons_zero, List.setIfInBounds_toArray, List.set_cons_zero, List.set_cons_succ]
                refine wpAnyH_take (i := 10) (v := .bool (p.se != se0)) rfl (by kernel_rfl) (by kernel_rfl) (by kernel_rfl) (fun _ _ _ h => h) (Or.inl ⟨by rfl, fun w hSw => by go_simp⟩) hS ?_
                simp only [Act.put, List.getElem_toArray, List.getElem_cons_succ, List.getElem_cons_zero, List.setIfInBounds_toArray, List.set_cons_zero, List.set_cons_succ]
                refine wpAnyH_take (i := 11) (v := .bool (p.se != se0)) rfl (by kernel_rfl) (by kernel_rfl) (by kernel_rfl) (fun _ _ _ h => h) (Or.inl ⟨by rfl, fun w hSw => by go_simp⟩) hS ?_
                simp only [Act.put, List.getElem_toArray, List.getElem_cons_succ, List.getElem_cons_zero, List.setIfInBounds_toArray, List.set_cons_zero, List.set_cons_succ]
                refine wpAnyH_done (by kernel_rfl) ?_ _
                go_wp2_with fail
                go_meet
                exact ⟨by rw [HSE2.out], HY0.out.low (below_drew _)⟩
            case rest =>
              obtain ⟨rfl, hy⟩ := hcut
              have HY4 := hid hy
              clear hy x1 HY0
              cases hsbv : sb
              · have HSO : Hid (serOk (bytesOf T) (Q.map Prod.fst)) := by
                  show serOk _ _
                  exact Decidable.not_not.1 (fun q => by have := HSB.out.2 q; rw [hsbv] at this; cases this)
                obtain ⟨ob, hob⟩ : ∃ ob : Bool, (ob = true ↔ ¬ ordOk (bytesOf T) (Q.map Prod.fst) op) := ⟨decide (¬ ordOk (bytesOf T) (Q.map Prod.fst) op), by rw [decide_eq_true_iff]⟩
                have HOB : Hid (ob = ((p.sq != (Q.length : Int)) || (((y2 : Int) != 0) != ((Q.length : Int) == 0)) || (((y1 : Int) != 0) != op))) := by
                  show _ = _
                  rw [HYY.out.1, HYY.out.2, Bool.eq_iff_iff, hob]
                  unfold ordOk
                  rw [List.length_map, ← HSQ.out.2.2.1, ← HSQ.out.2.2.2.2.2.2]
                  simp only [Bool.or_eq_true, bne_iff_ne, ne_eq, beq_eq_decide_int]
                  by_cases e1 : p.sq = (Q.length : Int) <;> by_cases e2 : fl / 2 % 2 = 1 <;> by_cases e3 : Q.length = 0 <;> by_cases e4 : fl % 2 = 1 <;> cases op <;> simp [e1, e2, e3, e4]
                have HOB2 := hid hob
                clear hob hsbv HSB
                have xa := HY4.out.bx.c 0 (.int .i64 p.fl) rfl
                have xc := HY4.out.bx.c 2 (.int .i64 p.sq) rfl
                have xd := HY4.out.bx.c 4 (.slice ap p.la.length pc) rfl
                have HW := hid HY4.out
                go_upto_region 16 with fail
                go_cut [70] from 48 to 69 (fun s70 wx => s70 = .bool ob ∧ wx = wc)
                case first =>
                  have hobe := HOB.out
                  by_cases hsq : p.sq = (Q.length : Int)
                  · have hsb1 : (p.sq != (Q.length : Int)) = false := by rw [bne_eq_false_iff_eq]; exact hsq
                    rw [hsb1] at hobe
                    clear hsq
                    cases e2 : ((y2 : Int) != 0) <;> cases e3 : ((Q.length : Int) == 0) <;> cases e4 : ((y1 : Int) != 0) <;> cases op
                    all_goals
                      rw [e2, e3, e4] at hobe
                      have HOE := hid hobe
                      clear hobe
                      go_wp2_with fail
                      go_meet
                      exact ⟨by rw [HOE.out]; rfl, rfl⟩
                  · have hsb1 : (p.sq != (Q.length : Int)) = true := by rw [bne_iff_ne]; exact hsq
                    have hobe : ob = true := by rw [hobe, hsb1]; rfl
                    have HOE := hid hobe
                    clear hsq hobe
                    go_wp2_with fail
                    go_meet
                    exact ⟨by rw [HOE.out], rfl⟩
                case rest =>
                  obtain ⟨rfl, rfl⟩ := hcut
                  cases hobv : ob
                  · have HOO : Hid (ordOk (bytesOf T) (Q.map Prod.fst) op) := by
                      show ordOk _ _ _
                      exact Decidable.not_not.1 (fun q => by have := HOB2.out.2 q; rw [hobv] at this; cases this)
                    have HY := hid HW.out
                    have HNX := hid (HNX0.out (pgE_ok HONE.out H65.out HSO.out HOO.out))
                    clear hobv HOB HOB2 HNX0 HOO HSO H65 HONE HSQ HYY hand1 hand2 xa xc HW HY4
                    go_wp2_with fail
                    clear xd
                    go_loopw [6, 7, 8, 11, 14] (fun s6 s7 s8 s11 s14 wr => ∃ (j : Nat) (K2 : List ByteArray) (op2 : Bool) (hd2 B2 : ByteArray), j ≤ lx.length ∧ s14 = .int .i64 (j : Int) ∧ s7 = .bool op2 ∧ s8 = .string hd2 ∧ s11 = .string B2 ∧ YQ w wr Q (.slice a5 Q.length c5) K2 s6 g (p, ap, pc) ∧ CI lx bd K op hd j K2 op2 hd2 B2 ∧ hd2.size + B2.size ≤ a + en ∧ K2.length ≤ K.length + j) (fun _ _ _ _ s14 _ => lx.length - (intOf s14).toNat)
                    case atStart => exact ⟨0, K, op, hd, B, Nat.zero_le _, rfl, rfl, rfl, rfl, HY.out, HCI.out, HSZ.out, Nat.le_refl _⟩
                    case round =>
                      clear HY HCI HSZ
                      obtain ⟨j, K2, op2, hd2, B2, hj, rfl, rfl, rfl, rfl, hy, hci, hsz, hkl⟩ := hrel
                      obtain ⟨a6, c6, ev⟩ := owns_sl hy.xq.own6
                      subst ev
                      have HY2 := hid hy
                      have x4 := hy.bx.c 4 (.slice ap p.la.length pc) rfl
                      have HCI2 := hid hci
                      clear hy hci
                      by_cases hlt : j < lx.length
                      · have hlp : j < p.la.length := by rw [HLX.out.1]; exact hlt
                        obtain ⟨b2, o2, rfl, q2⟩ := HY2.out.cur.pg.la.at j (by rw [HLX.out.1]; exact hlt)
                        have r1 := q2 wr (Below.refl _ _)
                        rw [HLX.out.2.1 j hlt] at r1
                        have hx255 := HLX.out.2.2 j hlt
                        have HST := hid (HCI2.out.step hlt)
                        have hxB := (HST.out).1
                        clear q2 HCI2
                        generalize lx.getD j 0 = x at *
                        have hslu := slice_upto B2 x hxB
                        have hslf := slice_from B2 x hxB
                        have hPz : (B2.extract 0 x).size = x := by rw [ext_len B2 0 x (by omega) hxB]; omega
                        have hFz : (B2.extract x B2.size).size = B2.size - x := by rw [ext_len B2 x _ hxB (Nat.le_refl _)]
                        have hxi : (x : Int) ≤ (B2.size : Int) := by omega
                        obtain ⟨hd3, hh3⟩ : ∃ hd3, hd3 = hd2 ++ B2.extract 0 x := ⟨_, rfl⟩
                        have hz3 : hd3.size = hd2.size + x := by rw [hh3, ByteArray.size_append, hPz]
                        rw [← hh3] at HST
                        have hh4 : hd2 ++ B2.extract 0 x = hd3 := hh3.symm
                        have hm1 : ¬ (9223372036854775807 : Int) < (hd2.size : Int) + (x : Int) := by omega
                        have HSZ2 : Hid (hd3.size + (B2.extract x B2.size).size ≤ a + en) := by show _ ≤ _; omega
                        clear hh3 hz3
                        have HFZ := hid hFz
                        clear hFz
                        generalize B2.extract x B2.size = B3 at *
                        generalize B2.extract 0 x = PX at *
                        by_cases hx : x = 255
                        · have HC3 := hid (HST.out.2.1 hx)
                          have hxb : ((x : Int) == 255) = true := by rw [beq_iff_eq]; omega
                          clear HST hx
                          go_wp2_with fail
                          go_roundw
                          case rel => exact ⟨j + 1, K2, true, hd3, B3, by omega, by go_num, rfl, by first | rfl | rw [hh4], rfl, HY2.out, HC3.out, HSZ2.out, by omega⟩
                          case measure => simp [intOf]; omega
                        · have HC3 := hid (HST.out.2.2 hx)
                          have hxb : ((x : Int) == 255) = false := by rw [beq_eq_false_iff_ne]; omega
                          clear HST hx
                          go_upto_region 25 with fail
                          clear x4 r1 hslu hslf hPz hxi hm1 hxb
                          try rw [hh4]
                          clear hh4
                          go_wp2_with (at_builtin; go_loud (refine wpList_append_row _ rfl (.tmp 102) (.tmp 104) 23 rfl w.heap.size 9 iS (.string ⟨#[]⟩) 1 16 Tryd.underlying23 HIS.out.1 HIS.out.2.1 HIS.out.2.2.1 HIS.out.2.2.2 rfl (by decide) (.slice a6 K2.length c6) K2.length _ rfl (HY2.out.low (below_new _ _)).xq.own6 ⟨wr.heap.size, 0, none⟩ 1 1 [.string hd3] rfl rfl (one_new wr _ _) (by simp [Value.oneCell']) (by simp only [maxLen]; omega) (by omega) (HY2.out.low (below_new _ _)).xq.bl.size ?_); intro v7 w7 ho7 hg7 hx7)
                          have HY7 : Hid (YQ w w7 Q (.slice a5 Q.length c5) (K2 ++ [hd3]) v7 g (p, some ⟨b2, o2, none⟩, pc)) := (HY2.out.low (below_new _ _)).push6 ho7.out hg7.out hx7.out
                          clear HY2 ho7 hg7 hx7
                          try go_wp2_with fail
                          go_roundw
                          case rel => exact ⟨j + 1, K2 ++ [hd3], false, ⟨#[]⟩, B3, by omega, by go_num, rfl, rfl, rfl, HY7.out, HC3.out, by have := HSZ2.out; show 0 + B3.size ≤ _; omega, by rw [List.length_append, List.length_singleton]; omega⟩
                          case measure => simp [intOf]; omega
                      · have hlp : ¬ j < p.la.length := by rw [HLX.out.1]; exact hlt
                        have HFI := hid (HCI2.out.fin (by omega))
                        have x0 := HY2.out.bx.c 0 (.int .i64 p.fl) rfl
                        have x1 := HY2.out.bx.c 1 (.int .i64 p.se) rfl
                        have x2 := HY2.out.bx.c 2 (.int .i64 p.sq) rfl
                        have x3 := HY2.out.bx.c 3 (.int .i64 p.gr) rfl
                        have HNW : Hid (∀ j u, (pgC p ap pc)[j]? = some u → (wr.alloc (.cells #[.int .i64 p.fl, .int .i64 p.se, .int .i64 p.sq, .int .i64 p.gr, .slice ap p.la.length pc] 49)).cell? ((⟨wr.heap.size, 0, none⟩ : Addr).add j) = some u) := pg_new wr p ap pc
                        clear HCI2
                        go_wp2_with (at_builtin; go_loud (refine wpList_append_row _ rfl (.tmp 106) (.tmp 108) 22 rfl w.heap.size 49 iP (.agg zeroP) 5 56 Tryd.underlying22 HIP.out.1 HIP.out.2.1 HIP.out.2.2.1 HIP.out.2.2.2 rfl (by decide) (.slice a5 Q.length c5) Q.length _ rfl (HY2.out.low (below_new _ _)).xq.own5 ⟨wr.heap.size, 0, none⟩ 1 1 (pgC p ap pc) rfl rfl HNW.out (by simp [Value.oneCell']) (by simp only [maxLen]; omega) (by omega) (HY2.out.low (below_new _ _)).xq.bl.size ?_); intro v7 w7 ho7 hg7 hx7)
                        have hjl : lx.length ≤ j := by omega
                        have HX7 : Hid (XQ w w7 (Q ++ [(p, ap, pc)]) v7 K2 (.slice a6 K2.length c6)) := (HY2.out.low (below_new _ _)).push5 ho7.out hg7.out hx7.out
                        clear HY2 ho7 hg7 hx7 HNW x0 x1 x2 x3 x4
                        try go_wp2_with fail
                        go_roundw
                        case rel => exact ⟨f1, a + en, Q ++ [(p, ap, pc)], K2, op2, hd2, by go_num, rfl, rfl, by omega, by omega, by rw [List.length_append, List.length_singleton]; omega, by rw [List.length_append, List.length_singleton]; omega, HX7.out, by omega, HNX.out K2 op2 hd2 HFI.out, fun q hq => by
                          rcases List.mem_append.1 hq with hq | hq
                          · exact HFL0.out q hq
                          · rw [List.mem_singleton] at hq
                            rw [hq]
                            exact HF1.out⟩
                        case measure => simp [intOf]; omega
                  · have HOO : Hid (¬ ordOk (bytesOf T) (Q.map Prod.fst) op) := HOB2.out.1 hobv
                    have HYB := hid HW.out.xq.bl
                    clear hobv HOB HOB2 HNX0 hand1 hand2 xa xc xd HW HY4 HCI HSZ
                    have HE : Hid (prsP (bytesOf s) = (2, [], [])) := HPS.out.trans (prs_err HR0.out (pgE_ord HONE.out H65.out HSO.out HOO.out) (by decide))
                    go_wp2_with fail
                    go_ret3
                    exact ⟨PrsE.bad HE.out _, HYB.out⟩
              · have HSO : Hid (¬ serOk (bytesOf T) (Q.map Prod.fst)) := HSB.out.1 hsbv
                have HYB := hid HY4.out.xq.bl
                clear hsbv HSB HNX0 hand1 hand2 HY4 HCI HSZ
                have HE : Hid (prsP (bytesOf s) = (3, [], [])) := HPS.out.trans (prs_err HR0.out (pgE_ser HONE.out H65.out HSO.out) (by decide))
                go_wp2_with fail
                go_ret3
                exact ⟨PrsE.bad HE.out _, HYB.out⟩
        · have e2 := h1.2 hone
          have HNO := hid hone
          subst e2
          have HBB := hid (HX.out.bl.trans (HB2.out.mono HX.out.bl.size))
          have HBC : Hid (Below w.heap.size w (w2.alloc (.cells zeroP 49))) := HBB.out.alloc HBB.out.size _
          clear h1 hone HX HB2 HBB
          have HE : Hid (prsP (bytesOf s) = (2, [], [])) := HPS.out.trans (prs_err HR0.out (pgE_one HNO.out) (by decide))
          go_wp2_with fail
          go_ret3
          exact ⟨PrsE.bad HE.out _, HBC.out⟩
      · have HFL : Hid (∀ p ∈ Q.map Prod.fst, ∃ fl : Nat, p.fl = (fl : Int) ∧ fl ≤ 7) := fun p hp => by
          obtain ⟨q, hq, rfl⟩ := List.mem_map.1 hp
          exact HFL0.out q hq
        have HPS : Hid (prsP (bytesOf s) = finP (Q.map Prod.fst) (K.map bytesOf) op) := by
          obtain ⟨f', rfl⟩ : ∃ f', f = f' + 1 := ⟨f - 1, by omega⟩
          refine HP.out.trans ?_
          rw [prs, if_pos (by rw [List.length_drop, bytesOf_length]; omega)]
        clear HP KO
        go_wp2_with fail
        obtain ⟨bp, cp, ep, hpp, h8⟩ := HX.out.pages
        clear h8
        have HPP := hid hpp
        injection ep with ep1 ep2 ep3
        subst ep1 ep3
        clear hpp
        go_loopw [15] (fun s15 wx => ∃ k : Nat, k ≤ Q.length ∧ s15 = .int .i64 (k : Int) ∧ wx = wr ∧ ∀ i, i < k → ∀ p, (Q.map Prod.fst)[i]? = some p → (p.fl / 4 % 2 = 1 ↔ i + 1 = Q.length)) (fun s15 _ => Q.length - (intOf s15).toNat)
        case atStart => exact ⟨0, Nat.zero_le _, rfl, rfl, fun i hi => absurd hi (Nat.not_lt_zero _)⟩
        case round =>
          obtain ⟨k, hk, rfl, hw, hall⟩ := hrel
          subst hw
          have HALL := hid hall
          clear hall
          by_cases hlt : k < Q.length
          · obtain ⟨p, hpk⟩ : ∃ p, (Q.map Prod.fst)[k]? = some p := ⟨_, List.getElem?_eq_getElem (by rw [List.length_map]; exact hlt)⟩
            obtain ⟨b1, o1, rfl, ap, pc, hpa, q1⟩ := HPP.out.at k p hpk
            have x0 := (q1 wr (Below.refl _ _)).1
            obtain ⟨fl, hfl, hf7⟩ := HFL.out p (List.mem_of_getElem? hpk)
            rw [hfl] at x0
            have hand := and_small 4 fl (.inr (.inr rfl)) hf7
            obtain ⟨y4, hy4⟩ : ∃ y4, y4 = fl / (4 : Int).toNat % 2 * (4 : Int).toNat := ⟨_, rfl⟩
            rw [← hy4] at hand
            have hy : y4 = fl / 4 % 2 * 4 := hy4
            have HPK := hid hpk
            have HFE := hid hfl
            clear hpa q1 hpk hfl hy4
            by_cases hc4 : fl / 4 % 2 = 1
            · by_cases hke : k + 1 = Q.length
              · have h4 : ((y4 : Int) != 0) = true := by rw [bne_iff_ne]; omega
                have he : ((k : Int) == (Q.length : Int) - 1) = true := by rw [beq_iff_eq]; omega
                have HG : Hid (fl / 4 % 2 = 1 ↔ k + 1 = Q.length) := ⟨fun _ => by omega, fun _ => by omega⟩
                clear hc4 hke hy
                go_wp2_with fail
                go_roundw
                case rel => exact ⟨k + 1, by omega, by go_num, by simp, fun i hi p' hp' => by
                  rcases Nat.lt_or_ge i k with h1 | h1
                  · exact HALL.out i h1 p' hp'
                  · have : i = k := by omega
                    subst this
                    rw [HPK.out] at hp'
                    injection hp' with hp'
                    rw [← hp', HFE.out, ← HG.out]
                    omega⟩
                case measure => simp [intOf]; omega
              · have h4 : ((y4 : Int) != 0) = true := by rw [bne_iff_ne]; omega
                have he : ((k : Int) == (Q.length : Int) - 1) = false := by rw [beq_eq_false_iff_ne]; omega
                have HNL : Hid (lasB (Q.map Prod.fst) = true → False) := fun h => by
                  have := (lasB_iff _).1 h k p HPK.out
                  rw [HFE.out, List.length_map] at this
                  omega
                have HE : Hid (prsP (bytesOf s) = (2, [], [])) := HPS.out.trans (by unfold finP; rw [if_neg (fun q => HNL.out q.1)])
                clear hc4 hke hy HNL
                go_wp2_with fail
                go_ret3
                exact ⟨PrsE.bad HE.out _, HX.out.bl⟩
            · by_cases hke : k + 1 = Q.length
              · have h4 : ((y4 : Int) != 0) = false := by rw [bne_eq_false_iff_eq]; omega
                have he : ((k : Int) == (Q.length : Int) - 1) = true := by rw [beq_iff_eq]; omega
                have HNL : Hid (lasB (Q.map Prod.fst) = true → False) := fun h => by
                  have := (lasB_iff _).1 h k p HPK.out
                  rw [HFE.out, List.length_map] at this
                  omega
                have HE : Hid (prsP (bytesOf s) = (2, [], [])) := HPS.out.trans (by unfold finP; rw [if_neg (fun q => HNL.out q.1)])
                clear hc4 hke hy HNL
                go_wp2_with fail
                go_ret3
                exact ⟨PrsE.bad HE.out _, HX.out.bl⟩
              · have h4 : ((y4 : Int) != 0) = false := by rw [bne_eq_false_iff_eq]; omega
                have he : ((k : Int) == (Q.length : Int) - 1) = false := by rw [beq_eq_false_iff_ne]; omega
                have HG : Hid (fl / 4 % 2 = 1 ↔ k + 1 = Q.length) := ⟨fun _ => by omega, fun _ => by omega⟩
                clear hc4 hke hy
                go_wp2_with fail
                go_roundw
                case rel => exact ⟨k + 1, by omega, by go_num, by simp, fun i hi p' hp' => by
                  rcases Nat.lt_or_ge i k with h1 | h1
                  · exact HALL.out i h1 p' hp'
                  · have : i = k := by omega
                    subst this
                    rw [HPK.out] at hp'
                    injection hp' with hp'
                    rw [← hp', HFE.out, ← HG.out]
                    omega⟩
                case measure => simp [intOf]; omega
          · have HLS : Hid (lasB (Q.map Prod.fst) = true) := (lasB_iff _).2 (fun i p hp => by
              have hi : i < Q.length := by have := (List.getElem?_eq_some_iff.1 hp).1; rwa [List.length_map] at this
              rw [List.length_map]
              exact HALL.out i (by omega) p hp)
            clear HALL
            cases op
            · have HE : Hid (prsP (bytesOf s) = (0, Q.map Prod.fst, K.map bytesOf)) := HPS.out.trans (by unfold finP; rw [if_pos ⟨HLS.out, rfl⟩])
              go_wp2_with fail
              go_ret3
              exact ⟨PrsE.good HX.out HE.out, HX.out.bl⟩
            · have HE : Hid (prsP (bytesOf s) = (2, [], [])) := HPS.out.trans (by unfold finP; rw [if_neg (fun q => by have := q.2; cases this)])
              go_wp2_with fail
              go_ret3
              exact ⟨PrsE.bad HE.out _, HX.out.bl⟩


end Go.Proofs.YtjkamannjgcmiaaDoor
