/- Own text: the document's Unstereo. -/
import Derived.Test.YtpfkaddammfkkaaDoorR9with
namespace Go.Proofs.YtpfkaddammfkkaaDoor
open Go.RowKit
set_option linter.unusedSimpArgs false
set_option linter.unusedVariables false
theorem i64_and1 (n : Int) : bits BinOp.and IntKind.i64 n 1 = n % 2 := i64_mask n 1 (by decide)
set_option maxRecDepth 20000 in
set_option maxHeartbeats 1600000 in
theorem xunstereo_spec (m : Int) (a b : List Int) (aa ba : Option Addr) (ac bc : Nat) (w : World) (ha : IntsAt w aa a) (hb : IntsAt w ba b) : Calls Tryd.prog 28 #[.int .i64 m, .slice aa a.length ac, .slice ba b.length bc] w (Ret3 (ustR m a b) w) := by
  obtain ⟨i3, h3a, h3b, h3c, h3d⟩ := int_info
  have hal := ha.len
  have hbl := hb.len
  have KA : Hid (Calls Tryd.prog 45 #[.slice aa a.length ac, .int .i64 4398046511104] w fun e w' => e = .returned (.bool (inB a 4398046511104)) ∧ w' = w) := xwithin_spec a 4398046511104 (by decide) (by decide) aa ac w ha
  have KB : Hid (Calls Tryd.prog 45 #[.slice ba b.length bc, .int .i64 4398046511104] w fun e w' => e = .returned (.bool (inB b 4398046511104)) ∧ w' = w) := xwithin_spec b 4398046511104 (by decide) (by decide) ba bc w hb
  by_cases h1 : m < 0
  · have HR : Hid (ustR m a b = none) := by show _ = _; unfold ustR; rw [if_neg (fun h => by omega)]
    go_enter Tryd.func28, Tryd.ntmps28
    go_wp2_with fail
    go_ret3
    exact ret3_none HR.out rfl (Below.refl _ _)
  · skip
    by_cases h2 : 3 < m
    · have HR : Hid (ustR m a b = none) := by show _ = _; unfold ustR; rw [if_neg (fun h => by omega)]
      go_enter Tryd.func28, Tryd.ntmps28
      go_wp2_with fail
      go_ret3
      exact ret3_none HR.out rfl (Below.refl _ _)
    · skip
      by_cases h3 : ¬ a.length = b.length
      · have HR : Hid (ustR m a b = none) := by show _ = _; unfold ustR; rw [if_neg (fun h => h3 h.2.1)]
        have hbn : ((a.length : Int) != (b.length : Int)) = true := by rw [bne_iff_ne]; omega
        go_enter Tryd.func28, Tryd.ntmps28
        go_wp2_with fail
        go_ret3
        exact ret3_none HR.out rfl (Below.refl _ _)
      · skip
        have hlen : a.length = b.length := by omega
        have hbn : ((a.length : Int) != (b.length : Int)) = false := by rw [bne_eq_false_iff_eq]; omega
        have HA : Hid (IntsAt w aa a) := ha
        have HB : Hid (IntsAt w ba b) := hb
        cases ha1 : inB a 4398046511104 with
        | false =>
          rw [ha1] at KA
          have HLN : Hid (a.length = b.length) := hlen
          clear hlen
          have HR : Hid (ustR m a b = none) := by show _ = _; unfold ustR; rw [if_neg (fun h => by have h2 := h.2.2.1; rw [ha1] at h2; cases h2)]
          go_enter Tryd.func28, Tryd.ntmps28
          go_wp2_with fail
          refine KA.out.mono ?_
          rintro e w2 ⟨rfl, hw2⟩
          subst hw2
          go_wp2_with fail
          go_ret3
          exact ret3_none HR.out rfl (Below.refl _ _)
        | true =>
          cases hb1 : inB b 4398046511104 with
          | false =>
            rw [ha1] at KA
            rw [hb1] at KB
            have HLN : Hid (a.length = b.length) := hlen
            clear hlen
            have HR : Hid (ustR m a b = none) := by show _ = _; unfold ustR; rw [if_neg (fun h => by have h2 := h.2.2.2; rw [hb1] at h2; cases h2)]
            go_enter Tryd.func28, Tryd.ntmps28
            go_wp2_with fail
            refine KA.out.mono ?_
            rintro e w2 ⟨rfl, hw2⟩
            subst hw2
            go_wp2_with fail
            refine KB.out.mono ?_
            rintro e w2 ⟨rfl, hw2⟩
            subst hw2
            go_wp2_with fail
            go_ret3
            exact ret3_none HR.out rfl (Below.refl _ _)
          | true =>
            have HLN : Hid (a.length = b.length) := hlen
            have hab : (a.length : Int) ≤ (b.length : Int) := by omega
            rcases (show m = 0 ∨ m = 1 ∨ m = 2 ∨ m = 3 by omega) with rfl | rfl | rfl | rfl
            · have HR : Hid (ustR (0 : Int) a b = some (zipN (unP 0) a b a.length, zipN (unQ 0) a b a.length)) := by show _ = _; unfold ustR; rw [if_pos ⟨⟨by decide, by decide⟩, hlen, ha1, hb1⟩]; rfl
              have HNP : Hid (Rng (zipN (unP 0) a b a.length)) := zipN_num _ a b 4398046511104 (by decide) ha1 hb1 (fun p q h1 h2 => by show _ ≤ p ∧ p ≤ _; omega) _
              have HNQ : Hid (Rng (zipN (unQ 0) a b a.length)) := zipN_num _ a b 4398046511104 (by decide) ha1 hb1 (fun p q h1 h2 => by show _ ≤ q ∧ q ≤ _; omega) _
              have HSP : Hid (∀ i, zipN (unP 0) a b (i + 1) = zipN (unP 0) a b i ++ [unP 0 (a.getD i 0) (b.getD i 0)]) := fun i => rfl
              have HSQ : Hid (∀ i, zipN (unQ 0) a b (i + 1) = zipN (unQ 0) a b i ++ [unQ 0 (a.getD i 0) (b.getD i 0)]) := fun i => rfl
              have HIB : Hid (∀ i, (-4398046511104 ≤ a.getD i 0 ∧ a.getD i 0 ≤ 4398046511104) ∧ (-4398046511104 ≤ b.getD i 0 ∧ b.getD i 0 ≤ 4398046511104)) := fun i => ⟨inB_at a 4398046511104 ha1 (by decide) i, inB_at b 4398046511104 hb1 (by decide) i⟩
              have HFP : Hid (∀ p q : Int, unP 0 p q = p) := fun p q => rfl
              have HFQ : Hid (∀ p q : Int, unQ 0 p q = q) := fun p q => rfl
              rw [ha1] at KA
              rw [hb1] at KB
              clear ha1 hb1 ha hb hlen h3
              go_enter Tryd.func28, Tryd.ntmps28
              go_wp2_with fail
              refine KA.out.mono ?_
              rintro e w2 ⟨rfl, hw2⟩
              subst hw2
              go_wp2_with fail
              refine KB.out.mono ?_
              rintro e w2 ⟨rfl, hw2⟩
              subst hw2
              go_wp2_with fail
              clear KA KB
              obtain ⟨w, hww⟩ : ∃ w, w = w2 := ⟨_, rfl⟩
              subst hww
              go_loopw [9, 10, 11] (fun s s2 t wr => ∃ (i : Nat) (vx vy : Value), i ≤ a.length ∧ t = .int .i64 (i : Int) ∧ s = vx ∧ s2 = vy ∧ Out2 w vx vy (zipN (unP 0) a b i) (zipN (unQ 0) a b i) wr) (fun _ _ t _ => a.length - (intOf t).toNat)
              case atStart => exact ⟨0, _, _, Nat.zero_le _, rfl, rfl, rfl, Out2.nil w⟩
              case round =>
                obtain ⟨i, vx, vy, hi, rfl, rfl, rfl, hout⟩ := hrel
                obtain ⟨xa, xc, ya, yc, rfl, rfl⟩ := hout.shape
                by_cases hlt : i < a.length
                · obtain ⟨b1, o1, rfl, q1⟩ := HA.out.at i hlt
                  obtain ⟨b2, o2, rfl, q2⟩ := HB.out.at i (by have := HLN.out; omega)
                  have r1 := q1 wr hout.below
                  have r2 := q2 wr hout.below
                  clear q1 q2
                  have HN1 : Hid (zipN (unP 0) a b (i + 1) = zipN (unP 0) a b i ++ [unP 0 (a.getD i 0) (b.getD i 0)]) := HSP.out i
                  have HN2 : Hid (zipN (unQ 0) a b (i + 1) = zipN (unQ 0) a b i ++ [unQ 0 (a.getD i 0) (b.getD i 0)]) := HSQ.out i
                  obtain ⟨⟨p1, p2⟩, ⟨q1, q2⟩⟩ := HIB.out i
                  rw [HFP.out] at HN1
                  rw [HFQ.out] at HN2
                  have hlx := zipN_len (unP 0) a b i
                  have hly := zipN_len (unQ 0) a b i
                  have hx5 : (zipN (unP 0) a b i).length ≤ 17592186044415 := by omega
                  have hy5 : (zipN (unQ 0) a b i).length ≤ 17592186044415 := by omega
                  clear hlx hly
                  generalize zipN (unP 0) a b i = xs at *
                  generalize zipN (unQ 0) a b i = ys at *
                  generalize a.getD i 0 = p at *
                  generalize b.getD i 0 = q at *
                  have HO : Hid (Out2 w (.slice xa xs.length xc) (.slice ya ys.length yc) xs ys wr) := hout
                  clear hout
                  have hibl : (i : Int) < (b.length : Int) := by omega
                  go_wp2_with fail
                  go_quiet (fail)
                  have HO2 : Hid (Out2 w (.slice xa xs.length xc) (.slice ya ys.length yc) xs ys (wr.drewN nq)) := HO.out.low (below_drewN _ _)
                  generalize wr.drewN nq = w5 at *
                  clear r1 r2 HO
                  go_wp2_with (first | (at_builtin; refine wpList_append_lies _ rfl (.tmp 78) (.tmp 80) 22 rfl w.heap.size 3 i3 (.int .i64 0) 1 8 undI3 h3a h3b h3c h3d rfl (by decide) (.slice xa xs.length xc) xs.length (intsC xs) rfl (HO2.out.alloc _).ox ⟨w5.heap.size, 0, none⟩ 1 1 [.int .i64 (p)] rfl rfl (World.news_of_block (cs := #[.int .i64 (p)]) (t := 3) (fr := (0, 0)) (tmp_new w5 _)) (one_int _ _) (by decide) (by unfold maxLen; omega) (by omega) (HO2.out.alloc _).below.size _ rfl ?_; intro gX cX wX ownX groX hatX hltX; have HO3 : Hid (Out2 w (.slice (some ⟨gX, 0, none⟩) (xs.length + 1) cX) (.slice ya ys.length yc) (xs ++ [p]) ys wX) := (HO2.out.alloc _).pushX ownX groX hatX; clear ownX groX hatX hltX) | (at_builtin; refine wpList_append_lies _ rfl (.tmp 82) (.tmp 84) 22 rfl w.heap.size 3 i3 (.int .i64 0) 1 8 undI3 h3a h3b h3c h3d rfl (by decide) (.slice ya ys.length yc) ys.length (intsC ys) rfl (HO3.out.alloc _).oy ⟨wX.heap.size, 0, none⟩ 1 1 [.int .i64 (q)] rfl rfl (World.news_of_block (cs := #[.int .i64 (q)]) (t := 3) (fr := (0, 0)) (tmp_new wX _)) (one_int _ _) (by decide) (by unfold maxLen; omega) (by omega) (HO3.out.alloc _).below.size _ rfl ?_; intro gY cY wY ownY groY hatY hltY; have HO4 : Hid (Out2 w (.slice (some ⟨gX, 0, none⟩) (xs.length + 1) cX) (.slice (some ⟨gY, 0, none⟩) (ys.length + 1) cY) (xs ++ [p]) (ys ++ [q]) wY) := (HO3.out.alloc _).pushY ownY groY hatY; clear ownY groY hatY hltY))
                  go_roundw
                  case rel => exact ⟨i + 1, _, _, by omega, by go_num, rfl, rfl, by rw [HN1.out, HN2.out]; exact HO4.out⟩
                  case measure => simp [intOf]; omega
                · have hie : i = a.length := by omega
                  subst hie
                  have HI : Hid (IntsAt wr xa (zipN (unP 0) a b a.length) ∧ IntsAt wr ya (zipN (unQ 0) a b a.length) ∧ Below w.heap.size w wr) := ⟨own_ints hout.ox (by rw [zipN_len]; omega) HNP.out, own_ints hout.oy (by rw [zipN_len]; omega) HNQ.out, hout.below⟩
                  clear hout
                  generalize zipN (unP 0) a b a.length = xs at *
                  generalize zipN (unQ 0) a b a.length = ys at *
                  go_wp2_with fail
                  go_ret3
                  exact ret3_some HR.out rfl HI.out.1 HI.out.2.1 HI.out.2.2
            · have HR : Hid (ustR (1 : Int) a b = some (zipN (unP 1) a b a.length, zipN (unQ 1) a b a.length)) := by show _ = _; unfold ustR; rw [if_pos ⟨⟨by decide, by decide⟩, hlen, ha1, hb1⟩]; rfl
              have HNP : Hid (Rng (zipN (unP 1) a b a.length)) := zipN_num _ a b 4398046511104 (by decide) ha1 hb1 (fun p q h1 h2 => by show _ ≤ p ∧ p ≤ _; omega) _
              have HNQ : Hid (Rng (zipN (unQ 1) a b a.length)) := zipN_num _ a b 4398046511104 (by decide) ha1 hb1 (fun p q h1 h2 => by show _ ≤ p - q ∧ p - q ≤ _; omega) _
              have HSP : Hid (∀ i, zipN (unP 1) a b (i + 1) = zipN (unP 1) a b i ++ [unP 1 (a.getD i 0) (b.getD i 0)]) := fun i => rfl
              have HSQ : Hid (∀ i, zipN (unQ 1) a b (i + 1) = zipN (unQ 1) a b i ++ [unQ 1 (a.getD i 0) (b.getD i 0)]) := fun i => rfl
              have HIB : Hid (∀ i, (-4398046511104 ≤ a.getD i 0 ∧ a.getD i 0 ≤ 4398046511104) ∧ (-4398046511104 ≤ b.getD i 0 ∧ b.getD i 0 ≤ 4398046511104)) := fun i => ⟨inB_at a 4398046511104 ha1 (by decide) i, inB_at b 4398046511104 hb1 (by decide) i⟩
              have HFP : Hid (∀ p q : Int, unP 1 p q = p) := fun p q => rfl
              have HFQ : Hid (∀ p q : Int, unQ 1 p q = p - q) := fun p q => rfl
              rw [ha1] at KA
              rw [hb1] at KB
              clear ha1 hb1 ha hb hlen h3
              go_enter Tryd.func28, Tryd.ntmps28
              go_wp2_with fail
              refine KA.out.mono ?_
              rintro e w2 ⟨rfl, hw2⟩
              subst hw2
              go_wp2_with fail
              refine KB.out.mono ?_
              rintro e w2 ⟨rfl, hw2⟩
              subst hw2
              go_wp2_with fail
              clear KA KB
              obtain ⟨w, hww⟩ : ∃ w, w = w2 := ⟨_, rfl⟩
              subst hww
              go_loopw [9, 10, 11] (fun s s2 t wr => ∃ (i : Nat) (vx vy : Value), i ≤ a.length ∧ t = .int .i64 (i : Int) ∧ s = vx ∧ s2 = vy ∧ Out2 w vx vy (zipN (unP 1) a b i) (zipN (unQ 1) a b i) wr) (fun _ _ t _ => a.length - (intOf t).toNat)
              case atStart => exact ⟨0, _, _, Nat.zero_le _, rfl, rfl, rfl, Out2.nil w⟩
              case round =>
                obtain ⟨i, vx, vy, hi, rfl, rfl, rfl, hout⟩ := hrel
                obtain ⟨xa, xc, ya, yc, rfl, rfl⟩ := hout.shape
                by_cases hlt : i < a.length
                · obtain ⟨b1, o1, rfl, q1⟩ := HA.out.at i hlt
                  obtain ⟨b2, o2, rfl, q2⟩ := HB.out.at i (by have := HLN.out; omega)
                  have r1 := q1 wr hout.below
                  have r2 := q2 wr hout.below
                  clear q1 q2
                  have HN1 : Hid (zipN (unP 1) a b (i + 1) = zipN (unP 1) a b i ++ [unP 1 (a.getD i 0) (b.getD i 0)]) := HSP.out i
                  have HN2 : Hid (zipN (unQ 1) a b (i + 1) = zipN (unQ 1) a b i ++ [unQ 1 (a.getD i 0) (b.getD i 0)]) := HSQ.out i
                  obtain ⟨⟨p1, p2⟩, ⟨q1, q2⟩⟩ := HIB.out i
                  rw [HFP.out] at HN1
                  rw [HFQ.out] at HN2
                  have hlx := zipN_len (unP 1) a b i
                  have hly := zipN_len (unQ 1) a b i
                  have hx5 : (zipN (unP 1) a b i).length ≤ 17592186044415 := by omega
                  have hy5 : (zipN (unQ 1) a b i).length ≤ 17592186044415 := by omega
                  clear hlx hly
                  generalize zipN (unP 1) a b i = xs at *
                  generalize zipN (unQ 1) a b i = ys at *
                  generalize a.getD i 0 = p at *
                  generalize b.getD i 0 = q at *
                  have HO : Hid (Out2 w (.slice xa xs.length xc) (.slice ya ys.length yc) xs ys wr) := hout
                  clear hout
                  have hibl : (i : Int) < (b.length : Int) := by omega
                  go_wp2_with fail
                  go_quiet (fail)
                  have HO2 : Hid (Out2 w (.slice xa xs.length xc) (.slice ya ys.length yc) xs ys (wr.drewN nq)) := HO.out.low (below_drewN _ _)
                  generalize wr.drewN nq = w5 at *
                  clear r1 r2 HO
                  go_wp2_with (first | (at_builtin; refine wpList_append_lies _ rfl (.tmp 78) (.tmp 80) 22 rfl w.heap.size 3 i3 (.int .i64 0) 1 8 undI3 h3a h3b h3c h3d rfl (by decide) (.slice xa xs.length xc) xs.length (intsC xs) rfl (HO2.out.alloc _).ox ⟨w5.heap.size, 0, none⟩ 1 1 [.int .i64 (p)] rfl rfl (World.news_of_block (cs := #[.int .i64 (p)]) (t := 3) (fr := (0, 0)) (tmp_new w5 _)) (one_int _ _) (by decide) (by unfold maxLen; omega) (by omega) (HO2.out.alloc _).below.size _ rfl ?_; intro gX cX wX ownX groX hatX hltX; have HO3 : Hid (Out2 w (.slice (some ⟨gX, 0, none⟩) (xs.length + 1) cX) (.slice ya ys.length yc) (xs ++ [p]) ys wX) := (HO2.out.alloc _).pushX ownX groX hatX; clear ownX groX hatX hltX) | (at_builtin; refine wpList_append_lies _ rfl (.tmp 82) (.tmp 84) 22 rfl w.heap.size 3 i3 (.int .i64 0) 1 8 undI3 h3a h3b h3c h3d rfl (by decide) (.slice ya ys.length yc) ys.length (intsC ys) rfl (HO3.out.alloc _).oy ⟨wX.heap.size, 0, none⟩ 1 1 [.int .i64 (p - q)] rfl rfl (World.news_of_block (cs := #[.int .i64 (p - q)]) (t := 3) (fr := (0, 0)) (tmp_new wX _)) (one_int _ _) (by decide) (by unfold maxLen; omega) (by omega) (HO3.out.alloc _).below.size _ rfl ?_; intro gY cY wY ownY groY hatY hltY; have HO4 : Hid (Out2 w (.slice (some ⟨gX, 0, none⟩) (xs.length + 1) cX) (.slice (some ⟨gY, 0, none⟩) (ys.length + 1) cY) (xs ++ [p]) (ys ++ [p - q]) wY) := (HO3.out.alloc _).pushY ownY groY hatY; clear ownY groY hatY hltY))
                  go_roundw
                  case rel => exact ⟨i + 1, _, _, by omega, by go_num, rfl, rfl, by rw [HN1.out, HN2.out]; exact HO4.out⟩
                  case measure => simp [intOf]; omega
                · have hie : i = a.length := by omega
                  subst hie
                  have HI : Hid (IntsAt wr xa (zipN (unP 1) a b a.length) ∧ IntsAt wr ya (zipN (unQ 1) a b a.length) ∧ Below w.heap.size w wr) := ⟨own_ints hout.ox (by rw [zipN_len]; omega) HNP.out, own_ints hout.oy (by rw [zipN_len]; omega) HNQ.out, hout.below⟩
                  clear hout
                  generalize zipN (unP 1) a b a.length = xs at *
                  generalize zipN (unQ 1) a b a.length = ys at *
                  go_wp2_with fail
                  go_ret3
                  exact ret3_some HR.out rfl HI.out.1 HI.out.2.1 HI.out.2.2
            · have HR : Hid (ustR (2 : Int) a b = some (zipN (unP 2) a b a.length, zipN (unQ 2) a b a.length)) := by show _ = _; unfold ustR; rw [if_pos ⟨⟨by decide, by decide⟩, hlen, ha1, hb1⟩]; rfl
              have HNP : Hid (Rng (zipN (unP 2) a b a.length)) := zipN_num _ a b 4398046511104 (by decide) ha1 hb1 (fun p q h1 h2 => by show _ ≤ p + q ∧ p + q ≤ _; omega) _
              have HNQ : Hid (Rng (zipN (unQ 2) a b a.length)) := zipN_num _ a b 4398046511104 (by decide) ha1 hb1 (fun p q h1 h2 => by show _ ≤ q ∧ q ≤ _; omega) _
              have HSP : Hid (∀ i, zipN (unP 2) a b (i + 1) = zipN (unP 2) a b i ++ [unP 2 (a.getD i 0) (b.getD i 0)]) := fun i => rfl
              have HSQ : Hid (∀ i, zipN (unQ 2) a b (i + 1) = zipN (unQ 2) a b i ++ [unQ 2 (a.getD i 0) (b.getD i 0)]) := fun i => rfl
              have HIB : Hid (∀ i, (-4398046511104 ≤ a.getD i 0 ∧ a.getD i 0 ≤ 4398046511104) ∧ (-4398046511104 ≤ b.getD i 0 ∧ b.getD i 0 ≤ 4398046511104)) := fun i => ⟨inB_at a 4398046511104 ha1 (by decide) i, inB_at b 4398046511104 hb1 (by decide) i⟩
              have HFP : Hid (∀ p q : Int, unP 2 p q = p + q) := fun p q => rfl
              have HFQ : Hid (∀ p q : Int, unQ 2 p q = q) := fun p q => rfl
              rw [ha1] at KA
              rw [hb1] at KB
              clear ha1 hb1 ha hb hlen h3
              go_enter Tryd.func28, Tryd.ntmps28
              go_wp2_with fail
              refine KA.out.mono ?_
              rintro e w2 ⟨rfl, hw2⟩
              subst hw2
              go_wp2_with fail
              refine KB.out.mono ?_
              rintro e w2 ⟨rfl, hw2⟩
              subst hw2
              go_wp2_with fail
              clear KA KB
              obtain ⟨w, hww⟩ : ∃ w, w = w2 := ⟨_, rfl⟩
              subst hww
              go_loopw [9, 10, 11] (fun s s2 t wr => ∃ (i : Nat) (vx vy : Value), i ≤ a.length ∧ t = .int .i64 (i : Int) ∧ s = vx ∧ s2 = vy ∧ Out2 w vx vy (zipN (unP 2) a b i) (zipN (unQ 2) a b i) wr) (fun _ _ t _ => a.length - (intOf t).toNat)
              case atStart => exact ⟨0, _, _, Nat.zero_le _, rfl, rfl, rfl, Out2.nil w⟩
              case round =>
                obtain ⟨i, vx, vy, hi, rfl, rfl, rfl, hout⟩ := hrel
                obtain ⟨xa, xc, ya, yc, rfl, rfl⟩ := hout.shape
                by_cases hlt : i < a.length
                · obtain ⟨b1, o1, rfl, q1⟩ := HA.out.at i hlt
                  obtain ⟨b2, o2, rfl, q2⟩ := HB.out.at i (by have := HLN.out; omega)
                  have r1 := q1 wr hout.below
                  have r2 := q2 wr hout.below
                  clear q1 q2
                  have HN1 : Hid (zipN (unP 2) a b (i + 1) = zipN (unP 2) a b i ++ [unP 2 (a.getD i 0) (b.getD i 0)]) := HSP.out i
                  have HN2 : Hid (zipN (unQ 2) a b (i + 1) = zipN (unQ 2) a b i ++ [unQ 2 (a.getD i 0) (b.getD i 0)]) := HSQ.out i
                  obtain ⟨⟨p1, p2⟩, ⟨q1, q2⟩⟩ := HIB.out i
                  rw [HFP.out] at HN1
                  rw [HFQ.out] at HN2
                  have hlx := zipN_len (unP 2) a b i
                  have hly := zipN_len (unQ 2) a b i
                  have hx5 : (zipN (unP 2) a b i).length ≤ 17592186044415 := by omega
                  have hy5 : (zipN (unQ 2) a b i).length ≤ 17592186044415 := by omega
                  clear hlx hly
                  generalize zipN (unP 2) a b i = xs at *
                  generalize zipN (unQ 2) a b i = ys at *
                  generalize a.getD i 0 = p at *
                  generalize b.getD i 0 = q at *
                  have HO : Hid (Out2 w (.slice xa xs.length xc) (.slice ya ys.length yc) xs ys wr) := hout
                  clear hout
                  have hibl : (i : Int) < (b.length : Int) := by omega
                  go_wp2_with fail
                  go_quiet (fail)
                  have HO2 : Hid (Out2 w (.slice xa xs.length xc) (.slice ya ys.length yc) xs ys (wr.drewN nq)) := HO.out.low (below_drewN _ _)
                  generalize wr.drewN nq = w5 at *
                  clear r1 r2 HO
                  go_wp2_with (first | (at_builtin; refine wpList_append_lies _ rfl (.tmp 78) (.tmp 80) 22 rfl w.heap.size 3 i3 (.int .i64 0) 1 8 undI3 h3a h3b h3c h3d rfl (by decide) (.slice xa xs.length xc) xs.length (intsC xs) rfl (HO2.out.alloc _).ox ⟨w5.heap.size, 0, none⟩ 1 1 [.int .i64 (p + q)] rfl rfl (World.news_of_block (cs := #[.int .i64 (p + q)]) (t := 3) (fr := (0, 0)) (tmp_new w5 _)) (one_int _ _) (by decide) (by unfold maxLen; omega) (by omega) (HO2.out.alloc _).below.size _ rfl ?_; intro gX cX wX ownX groX hatX hltX; have HO3 : Hid (Out2 w (.slice (some ⟨gX, 0, none⟩) (xs.length + 1) cX) (.slice ya ys.length yc) (xs ++ [p + q]) ys wX) := (HO2.out.alloc _).pushX ownX groX hatX; clear ownX groX hatX hltX) | (at_builtin; refine wpList_append_lies _ rfl (.tmp 82) (.tmp 84) 22 rfl w.heap.size 3 i3 (.int .i64 0) 1 8 undI3 h3a h3b h3c h3d rfl (by decide) (.slice ya ys.length yc) ys.length (intsC ys) rfl (HO3.out.alloc _).oy ⟨wX.heap.size, 0, none⟩ 1 1 [.int .i64 (q)] rfl rfl (World.news_of_block (cs := #[.int .i64 (q)]) (t := 3) (fr := (0, 0)) (tmp_new wX _)) (one_int _ _) (by decide) (by unfold maxLen; omega) (by omega) (HO3.out.alloc _).below.size _ rfl ?_; intro gY cY wY ownY groY hatY hltY; have HO4 : Hid (Out2 w (.slice (some ⟨gX, 0, none⟩) (xs.length + 1) cX) (.slice (some ⟨gY, 0, none⟩) (ys.length + 1) cY) (xs ++ [p + q]) (ys ++ [q]) wY) := (HO3.out.alloc _).pushY ownY groY hatY; clear ownY groY hatY hltY))
                  go_roundw
                  case rel => exact ⟨i + 1, _, _, by omega, by go_num, rfl, rfl, by rw [HN1.out, HN2.out]; exact HO4.out⟩
                  case measure => simp [intOf]; omega
                · have hie : i = a.length := by omega
                  subst hie
                  have HI : Hid (IntsAt wr xa (zipN (unP 2) a b a.length) ∧ IntsAt wr ya (zipN (unQ 2) a b a.length) ∧ Below w.heap.size w wr) := ⟨own_ints hout.ox (by rw [zipN_len]; omega) HNP.out, own_ints hout.oy (by rw [zipN_len]; omega) HNQ.out, hout.below⟩
                  clear hout
                  generalize zipN (unP 2) a b a.length = xs at *
                  generalize zipN (unQ 2) a b a.length = ys at *
                  go_wp2_with fail
                  go_ret3
                  exact ret3_some HR.out rfl HI.out.1 HI.out.2.1 HI.out.2.2
            · have HR : Hid (ustR (3 : Int) a b = some (zipN (unP 3) a b a.length, zipN (unQ 3) a b a.length)) := by show _ = _; unfold ustR; rw [if_pos ⟨⟨by decide, by decide⟩, hlen, ha1, hb1⟩]; rfl
              have HNP : Hid (Rng (zipN (unP 3) a b a.length)) := zipN_num _ a b 4398046511104 (by decide) ha1 hb1 (fun p q h1 h2 => by show _ ≤ (p * 2 + q % 2 + q) / 2 ∧ (p * 2 + q % 2 + q) / 2 ≤ _; omega) _
              have HNQ : Hid (Rng (zipN (unQ 3) a b a.length)) := zipN_num _ a b 4398046511104 (by decide) ha1 hb1 (fun p q h1 h2 => by show _ ≤ (p * 2 + q % 2 - q) / 2 ∧ (p * 2 + q % 2 - q) / 2 ≤ _; omega) _
              have HSP : Hid (∀ i, zipN (unP 3) a b (i + 1) = zipN (unP 3) a b i ++ [unP 3 (a.getD i 0) (b.getD i 0)]) := fun i => rfl
              have HSQ : Hid (∀ i, zipN (unQ 3) a b (i + 1) = zipN (unQ 3) a b i ++ [unQ 3 (a.getD i 0) (b.getD i 0)]) := fun i => rfl
              have HIB : Hid (∀ i, (-4398046511104 ≤ a.getD i 0 ∧ a.getD i 0 ≤ 4398046511104) ∧ (-4398046511104 ≤ b.getD i 0 ∧ b.getD i 0 ≤ 4398046511104)) := fun i => ⟨inB_at a 4398046511104 ha1 (by decide) i, inB_at b 4398046511104 hb1 (by decide) i⟩
              have HFP : Hid (∀ p q : Int, unP 3 p q = (p * 2 + q % 2 + q) / 2) := fun p q => rfl
              have HFQ : Hid (∀ p q : Int, unQ 3 p q = (p * 2 + q % 2 - q) / 2) := fun p q => rfl
              rw [ha1] at KA
              rw [hb1] at KB
              clear ha1 hb1 ha hb hlen h3
              go_enter Tryd.func28, Tryd.ntmps28
              go_wp2_with fail
              refine KA.out.mono ?_
              rintro e w2 ⟨rfl, hw2⟩
              subst hw2
              go_wp2_with fail
              refine KB.out.mono ?_
              rintro e w2 ⟨rfl, hw2⟩
              subst hw2
              go_wp2_with fail
              clear KA KB
              obtain ⟨w, hww⟩ : ∃ w, w = w2 := ⟨_, rfl⟩
              subst hww
              go_loopw [9, 10, 11] (fun s s2 t wr => ∃ (i : Nat) (vx vy : Value), i ≤ a.length ∧ t = .int .i64 (i : Int) ∧ s = vx ∧ s2 = vy ∧ Out2 w vx vy (zipN (unP 3) a b i) (zipN (unQ 3) a b i) wr) (fun _ _ t _ => a.length - (intOf t).toNat)
              case atStart => exact ⟨0, _, _, Nat.zero_le _, rfl, rfl, rfl, Out2.nil w⟩
              case round =>
                obtain ⟨i, vx, vy, hi, rfl, rfl, rfl, hout⟩ := hrel
                obtain ⟨xa, xc, ya, yc, rfl, rfl⟩ := hout.shape
                by_cases hlt : i < a.length
                · obtain ⟨b1, o1, rfl, q1⟩ := HA.out.at i hlt
                  obtain ⟨b2, o2, rfl, q2⟩ := HB.out.at i (by have := HLN.out; omega)
                  have r1 := q1 wr hout.below
                  have r2 := q2 wr hout.below
                  clear q1 q2
                  have HN1 : Hid (zipN (unP 3) a b (i + 1) = zipN (unP 3) a b i ++ [unP 3 (a.getD i 0) (b.getD i 0)]) := HSP.out i
                  have HN2 : Hid (zipN (unQ 3) a b (i + 1) = zipN (unQ 3) a b i ++ [unQ 3 (a.getD i 0) (b.getD i 0)]) := HSQ.out i
                  obtain ⟨⟨p1, p2⟩, ⟨q1, q2⟩⟩ := HIB.out i
                  rw [HFP.out] at HN1
                  rw [HFQ.out] at HN2
                  have hlx := zipN_len (unP 3) a b i
                  have hly := zipN_len (unQ 3) a b i
                  have hx5 : (zipN (unP 3) a b i).length ≤ 17592186044415 := by omega
                  have hy5 : (zipN (unQ 3) a b i).length ≤ 17592186044415 := by omega
                  clear hlx hly
                  generalize zipN (unP 3) a b i = xs at *
                  generalize zipN (unQ 3) a b i = ys at *
                  generalize a.getD i 0 = p at *
                  generalize b.getD i 0 = q at *
                  have hand := i64_and1 q
                  have HO : Hid (Out2 w (.slice xa xs.length xc) (.slice ya ys.length yc) xs ys wr) := hout
                  clear hout
                  have hibl : (i : Int) < (b.length : Int) := by omega
                  go_wp2_with fail
                  go_quiet (fail)
                  have HO2 : Hid (Out2 w (.slice xa xs.length xc) (.slice ya ys.length yc) xs ys (wr.drewN nq)) := HO.out.low (below_drewN _ _)
                  generalize wr.drewN nq = w5 at *
                  clear r1 r2 HO
                  go_wp2_with (first | (at_builtin; refine wpList_append_lies _ rfl (.tmp 78) (.tmp 80) 22 rfl w.heap.size 3 i3 (.int .i64 0) 1 8 undI3 h3a h3b h3c h3d rfl (by decide) (.slice xa xs.length xc) xs.length (intsC xs) rfl (HO2.out.alloc _).ox ⟨w5.heap.size, 0, none⟩ 1 1 [.int .i64 ((p * 2 + q % 2 + q) / 2)] rfl rfl (World.news_of_block (cs := #[.int .i64 ((p * 2 + q % 2 + q) / 2)]) (t := 3) (fr := (0, 0)) (tmp_new w5 _)) (one_int _ _) (by decide) (by unfold maxLen; omega) (by omega) (HO2.out.alloc _).below.size _ rfl ?_; intro gX cX wX ownX groX hatX hltX; have HO3 : Hid (Out2 w (.slice (some ⟨gX, 0, none⟩) (xs.length + 1) cX) (.slice ya ys.length yc) (xs ++ [(p * 2 + q % 2 + q) / 2]) ys wX) := (HO2.out.alloc _).pushX ownX groX hatX; clear ownX groX hatX hltX) | (at_builtin; refine wpList_append_lies _ rfl (.tmp 82) (.tmp 84) 22 rfl w.heap.size 3 i3 (.int .i64 0) 1 8 undI3 h3a h3b h3c h3d rfl (by decide) (.slice ya ys.length yc) ys.length (intsC ys) rfl (HO3.out.alloc _).oy ⟨wX.heap.size, 0, none⟩ 1 1 [.int .i64 ((p * 2 + q % 2 - q) / 2)] rfl rfl (World.news_of_block (cs := #[.int .i64 ((p * 2 + q % 2 - q) / 2)]) (t := 3) (fr := (0, 0)) (tmp_new wX _)) (one_int _ _) (by decide) (by unfold maxLen; omega) (by omega) (HO3.out.alloc _).below.size _ rfl ?_; intro gY cY wY ownY groY hatY hltY; have HO4 : Hid (Out2 w (.slice (some ⟨gX, 0, none⟩) (xs.length + 1) cX) (.slice (some ⟨gY, 0, none⟩) (ys.length + 1) cY) (xs ++ [(p * 2 + q % 2 + q) / 2]) (ys ++ [(p * 2 + q % 2 - q) / 2]) wY) := (HO3.out.alloc _).pushY ownY groY hatY; clear ownY groY hatY hltY))
                  go_roundw
                  case rel => exact ⟨i + 1, _, _, by omega, by go_num, rfl, rfl, by rw [HN1.out, HN2.out]; exact HO4.out⟩
                  case measure => simp [intOf]; omega
                · have hie : i = a.length := by omega
                  subst hie
                  have HI : Hid (IntsAt wr xa (zipN (unP 3) a b a.length) ∧ IntsAt wr ya (zipN (unQ 3) a b a.length) ∧ Below w.heap.size w wr) := ⟨own_ints hout.ox (by rw [zipN_len]; omega) HNP.out, own_ints hout.oy (by rw [zipN_len]; omega) HNQ.out, hout.below⟩
                  clear hout
                  generalize zipN (unP 3) a b a.length = xs at *
                  generalize zipN (unQ 3) a b a.length = ys at *
                  go_wp2_with fail
                  go_ret3
                  exact ret3_some HR.out rfl HI.out.1 HI.out.2.1 HI.out.2.2

end Go.Proofs.YtpfkaddammfkkaaDoor
