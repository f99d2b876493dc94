/- Own text. -/
import Derived.Test.YtfpfabmbipmipaaGreatDoorD38
set_option linter.unusedSimpArgs false
set_option linter.unusedVariables false
set_option maxRecDepth 20000
set_option maxHeartbeats 12800000
namespace Go.Proofs.YtfpfabmbipmipaaGreatDoor
open Go.RowKit
theorem xstereo_spec (m : Int) (a b : List Int) (aa ba : OA) (ac bc : Nat) (w : World) (ha : IntsAt w aa a) (hb : IntsAt w ba b) : Calls Tryz.prog 28 #[.int .i64 m, .slice aa a.length ac, .slice ba b.length bc] w (Ret3 (stR m a b) w) := by
 obtain ⟨i3, h3a, h3b, h3c, h3d⟩ := int_info
 have hal := ha.len
 have hbl := hb.len
 have KA : Hid (G0 69 #[.slice aa a.length ac, .int .i64 1099511627776] w (.bool (inB a 1099511627776))) := xwithin_spec a 1099511627776 (by decide) (by decide) aa ac w ha
 have KB : Hid (G0 69 #[.slice ba b.length bc, .int .i64 1099511627776] w (.bool (inB b 1099511627776))) := xwithin_spec b 1099511627776 (by decide) (by decide) ba bc w hb
 by_cases h1 : m < 0
 rotate_left
 focus
  skip
  by_cases h2 : 3 < m;rotate_left
  ·skip
   by_cases h3 : ¬ a.length = b.length
   ·have HR : Hid (stR m a b = none) := by show _ = _; unfold stR; rw [if_neg (fun h => h3 h.2.1)]
    have hbn : ((a.length : Int) != (b.length : Int)) = true := nQt (by omega)
    go_enter Tryz.func28, Tryz.ntmps28
    go_wp2_with fail
    go_ret3
    exact ret3_none HR.out rfl (Below.refl _ _)
   ·skip
    have hlen : a.length = b.length := by omega
    have hbn : ((a.length : Int) != (b.length : Int)) = false := nQf (by omega)
    have HA := kQ ha;have HB := kQ hb
    cases ha1 : inB a 1099511627776 with
    | false =>
     rw [ha1] at KA;have HLN := kQ hlen;clear hlen;have HR : Hid (stR m a b = none) := by show _ = _; unfold stR; rw [if_neg (fun h => by have h2 := h.2.2.1; rw [ha1] at h2; cases h2)]
     go_enter Tryz.func28, Tryz.ntmps28
     go_wp2_with fail
     refine KA.out.mono ?_;rintro e w2 ⟨rfl, hw2⟩;subst hw2
     go_wp2_with fail
     go_ret3
     exact ret3_none HR.out rfl (Below.refl _ _)
    | true =>
     cases hb1 : inB b 1099511627776 with
     | false =>
      rw [ha1] at KA;rw [hb1] at KB;have HLN := kQ hlen;clear hlen;have HR : Hid (stR m a b = none) := by show _ = _; unfold stR; rw [if_neg (fun h => by have h2 := h.2.2.2; rw [hb1] at h2; cases h2)]
      go_enter Tryz.func28, Tryz.ntmps28
      go_wp2_with fail
      refine KA.out.mono ?_;rintro e w2 ⟨rfl, hw2⟩;subst hw2
      go_wp2_with fail
      refine KB.out.mono ?_;rintro e w2 ⟨rfl, hw2⟩;subst hw2
      go_wp2_with fail
      go_ret3
      exact ret3_none HR.out rfl (Below.refl _ _)
     | true =>
      have HLN := kQ hlen;have hab : (a.length : Int) <= (b.length : Int) := by omega
      rcases (show m = 0 ∨ m = 1 ∨ m = 2 ∨ m = 3 by omega) with rfl | rfl | rfl | rfl
      ·have HR : Hid (stR (0 : Int) a b = some (zipN (stP 0) a b a.length, zipN (stQ 0) a b a.length)) := by show _ = _; unfold stR; rw [if_pos ⟨⟨by decide, by decide⟩, hlen, ha1, hb1⟩]; rfl
       have HNP : Hid (Rng (zipN (stP 0) a b a.length)) := zipN_num _ a b 1099511627776 (by decide) ha1 hb1 (fun p q h1 h2 => by show _ <= p /\ p <= _; omega) _
       have HNQ : Hid (Rng (zipN (stQ 0) a b a.length)) := zipN_num _ a b 1099511627776 (by decide) ha1 hb1 (fun p q h1 h2 => by show _ <= q /\ q <= _; omega) _
       have HSP : Hid (∀ i, zipN (stP 0) a b (i + 1) = zipN (stP 0) a b i ++ [stP 0 (a.getD i 0) (b.getD i 0)]) := fun i => rfl;have HSQ : Hid (∀ i, zipN (stQ 0) a b (i + 1) = zipN (stQ 0) a b i ++ [stQ 0 (a.getD i 0) (b.getD i 0)]) := fun i => rfl;have HIB : Hid (∀ i, (-1099511627776 <= a.getD i 0 /\ a.getD i 0 <= 1099511627776) /\ (-1099511627776 <= b.getD i 0 /\ b.getD i 0 <= 1099511627776)) := fun i => ⟨inB_at a 1099511627776 ha1 (by decide) i, inB_at b 1099511627776 hb1 (by decide) i⟩
       have HFP : Hid (∀ p q : Int, stP 0 p q = p) := fun p q => rfl;have HFQ : Hid (∀ p q : Int, stQ 0 p q = q) := fun p q => rfl;rw [ha1] at KA;rw [hb1] at KB;clear ha1 hb1 ha hb hlen h3;go_enter Tryz.func28, Tryz.ntmps28
       go_wp2_with fail
       refine KA.out.mono ?_;rintro e w2 ⟨rfl, hw2⟩;subst hw2
       go_wp2_with fail
       refine KB.out.mono ?_;rintro e w2 ⟨rfl, hw2⟩;subst hw2
       go_wp2_with fail
       clear KA KB;obtain ⟨w, hww⟩ : ∃ w, w = w2 := ⟨_, rfl⟩;subst hww
       go_loopw [9, 10, 11] (fun s s2 t wr => ∃ (i : Nat) (vx vy : Value), i <= a.length /\ t = .int .i64 (i : Int) /\ s = vx /\ s2 = vy /\ Out2 w vx vy (zipN (stP 0) a b i) (zipN (stQ 0) a b i) wr) (fun _ _ t _ => a.length - (intOf t).toNat)
       case atStart => exact ⟨0, _, _, Nat.zero_le _, rfl, rfl, rfl, Out2.nil w⟩
       case round =>
        obtain ⟨i, vx, vy, hi, rfl, rfl, rfl, hout⟩ := hrel;obtain ⟨xa, xc, ya, yc, rfl, rfl⟩ := hout.shape;by_cases hlt : i < a.length
        ·obtain ⟨b1, o1, rfl, q1⟩ := HA.out.at i hlt
         obtain ⟨b2, o2, rfl, q2⟩ := HB.out.at i (by have := HLN.out; omega)
         have r1 := q1 wr hout.below;have r2 := q2 wr hout.below;clear q1 q2;have HN1 := kQ (HSP.out i);have HN2 := kQ (HSQ.out i);obtain ⟨⟨p1, p2⟩, ⟨q1, q2⟩⟩ := HIB.out i;rw [HFP.out] at HN1;rw [HFQ.out] at HN2;have hlx := zipN_len (stP 0) a b i;have hly := zipN_len (stQ 0) a b i;have hx5 : (zipN (stP 0) a b i).length <= 17592186044415 := by omega
         have hy5 : (zipN (stQ 0) a b i).length <= 17592186044415 := by omega
         clear hlx hly;generalize zipN (stP 0) a b i = xs at *;generalize zipN (stQ 0) a b i = ys at *;generalize a.getD i 0 = p at *;generalize b.getD i 0 = q at *;have HO := kQ hout;clear hout;have hibl : (i : Int) < (b.length : Int) := by omega
         go_wp2_with fail
         go_quiet (fail)
         have HO2 : Hid (Out2 w (.slice xa xs.length xc) (.slice ya ys.length yc) xs ys (wr.drewN nq)) := HO.out.low (below_drewN _ _);generalize wr.drewN nq = w5 at *;clear r1 r2 HO
         go_wp2_with (first | (at_builtin; refine wpList_append_lies _ rfl (.tmp 71) (.tmp 73) 56 rfl w.heap.size 3 i3 (.int .i64 0) 1 8 undI3 h3a h3b h3c h3d rfl (by decide) (.slice xa xs.length xc) xs.length (intsC xs) rfl (HO2.out.alloc _).ox ⟨w5.heap.size, 0, none⟩ 1 1 [.int .i64 (p)] rfl rfl (World.news_of_block (cs := #[.int .i64 (p)]) (t := 3) (fr := (0, 0)) (tmp_new w5 _)) (one_int _ _) (by decide) (by unfold maxLen; omega) (by omega) (HO2.out.alloc _).below.size _ rfl ?_; intro gX cX wX ownX groX hatX hltX; have HO3 : Hid (Out2 w (.slice (some ⟨gX, 0, none⟩) (xs.length + 1) cX) (.slice ya ys.length yc) (xs ++ [p]) ys wX) := (HO2.out.alloc _).pushX ownX groX hatX; clear ownX groX hatX hltX) | (at_builtin; refine wpList_append_lies _ rfl (.tmp 75) (.tmp 77) 56 rfl w.heap.size 3 i3 (.int .i64 0) 1 8 undI3 h3a h3b h3c h3d rfl (by decide) (.slice ya ys.length yc) ys.length (intsC ys) rfl (HO3.out.alloc _).oy ⟨wX.heap.size, 0, none⟩ 1 1 [.int .i64 (q)] rfl rfl (World.news_of_block (cs := #[.int .i64 (q)]) (t := 3) (fr := (0, 0)) (tmp_new wX _)) (one_int _ _) (by decide) (by unfold maxLen; omega) (by omega) (HO3.out.alloc _).below.size _ rfl ?_; intro gY cY wY ownY groY hatY hltY; have HO4 : Hid (Out2 w (.slice (some ⟨gX, 0, none⟩) (xs.length + 1) cX) (.slice (some ⟨gY, 0, none⟩) (ys.length + 1) cY) (xs ++ [p]) (ys ++ [q]) wY) := (HO3.out.alloc _).pushY ownY groY hatY; clear ownY groY hatY hltY))
         go_roundw
         case rel => exact ⟨i + 1, _, _, by omega, by go_num, rfl, rfl, by rw [HN1.out, HN2.out]; exact HO4.out⟩
         case measure => simp [intOf]; omega
        ·have hie : i = a.length := by omega
         subst hie;have HI : Hid (IntsAt wr xa (zipN (stP 0) a b a.length) /\ IntsAt wr ya (zipN (stQ 0) a b a.length) /\ Lo w wr) := ⟨own_ints hout.ox (by rw [zipN_len]; omega) HNP.out, own_ints hout.oy (by rw [zipN_len]; omega) HNQ.out, hout.below⟩
         clear hout;generalize zipN (stP 0) a b a.length = xs at *;generalize zipN (stQ 0) a b a.length = ys at *
         go_wp2_with fail
         go_ret3
         exact ret3_some HR.out rfl HI.out.1 HI.out.2.1 HI.out.2.2
      ·have HR : Hid (stR (1 : Int) a b = some (zipN (stP 1) a b a.length, zipN (stQ 1) a b a.length)) := by show _ = _; unfold stR; rw [if_pos ⟨⟨by decide, by decide⟩, hlen, ha1, hb1⟩]; rfl
       have HNP : Hid (Rng (zipN (stP 1) a b a.length)) := zipN_num _ a b 1099511627776 (by decide) ha1 hb1 (fun p q h1 h2 => by show _ <= p /\ p <= _; omega) _
       have HNQ : Hid (Rng (zipN (stQ 1) a b a.length)) := zipN_num _ a b 1099511627776 (by decide) ha1 hb1 (fun p q h1 h2 => by show _ <= p - q /\ p - q <= _; omega) _
       have HSP : Hid (∀ i, zipN (stP 1) a b (i + 1) = zipN (stP 1) a b i ++ [stP 1 (a.getD i 0) (b.getD i 0)]) := fun i => rfl;have HSQ : Hid (∀ i, zipN (stQ 1) a b (i + 1) = zipN (stQ 1) a b i ++ [stQ 1 (a.getD i 0) (b.getD i 0)]) := fun i => rfl;have HIB : Hid (∀ i, (-1099511627776 <= a.getD i 0 /\ a.getD i 0 <= 1099511627776) /\ (-1099511627776 <= b.getD i 0 /\ b.getD i 0 <= 1099511627776)) := fun i => ⟨inB_at a 1099511627776 ha1 (by decide) i, inB_at b 1099511627776 hb1 (by decide) i⟩
       have HFP : Hid (∀ p q : Int, stP 1 p q = p) := fun p q => rfl;have HFQ : Hid (∀ p q : Int, stQ 1 p q = p - q) := fun p q => rfl;rw [ha1] at KA;rw [hb1] at KB;clear ha1 hb1 ha hb hlen h3;go_enter Tryz.func28, Tryz.ntmps28
       go_wp2_with fail
       refine KA.out.mono ?_;rintro e w2 ⟨rfl, hw2⟩;subst hw2
       go_wp2_with fail
       refine KB.out.mono ?_;rintro e w2 ⟨rfl, hw2⟩;subst hw2
       go_wp2_with fail
       clear KA KB;obtain ⟨w, hww⟩ : ∃ w, w = w2 := ⟨_, rfl⟩;subst hww
       go_loopw [9, 10, 11] (fun s s2 t wr => ∃ (i : Nat) (vx vy : Value), i <= a.length /\ t = .int .i64 (i : Int) /\ s = vx /\ s2 = vy /\ Out2 w vx vy (zipN (stP 1) a b i) (zipN (stQ 1) a b i) wr) (fun _ _ t _ => a.length - (intOf t).toNat)
       case atStart => exact ⟨0, _, _, Nat.zero_le _, rfl, rfl, rfl, Out2.nil w⟩
       case round =>
        obtain ⟨i, vx, vy, hi, rfl, rfl, rfl, hout⟩ := hrel;obtain ⟨xa, xc, ya, yc, rfl, rfl⟩ := hout.shape;by_cases hlt : i < a.length
        ·obtain ⟨b1, o1, rfl, q1⟩ := HA.out.at i hlt
         obtain ⟨b2, o2, rfl, q2⟩ := HB.out.at i (by have := HLN.out; omega)
         have r1 := q1 wr hout.below;have r2 := q2 wr hout.below;clear q1 q2;have HN1 := kQ (HSP.out i);have HN2 := kQ (HSQ.out i);obtain ⟨⟨p1, p2⟩, ⟨q1, q2⟩⟩ := HIB.out i;rw [HFP.out] at HN1;rw [HFQ.out] at HN2;have hlx := zipN_len (stP 1) a b i;have hly := zipN_len (stQ 1) a b i;have hx5 : (zipN (stP 1) a b i).length <= 17592186044415 := by omega
         have hy5 : (zipN (stQ 1) a b i).length <= 17592186044415 := by omega
         clear hlx hly;generalize zipN (stP 1) a b i = xs at *;generalize zipN (stQ 1) a b i = ys at *;generalize a.getD i 0 = p at *;generalize b.getD i 0 = q at *;have HO := kQ hout;clear hout;have hibl : (i : Int) < (b.length : Int) := by omega
         go_wp2_with fail
         go_quiet (fail)
         have HO2 : Hid (Out2 w (.slice xa xs.length xc) (.slice ya ys.length yc) xs ys (wr.drewN nq)) := HO.out.low (below_drewN _ _);generalize wr.drewN nq = w5 at *;clear r1 r2 HO
         go_wp2_with (first | (at_builtin; refine wpList_append_lies _ rfl (.tmp 71) (.tmp 73) 56 rfl w.heap.size 3 i3 (.int .i64 0) 1 8 undI3 h3a h3b h3c h3d rfl (by decide) (.slice xa xs.length xc) xs.length (intsC xs) rfl (HO2.out.alloc _).ox ⟨w5.heap.size, 0, none⟩ 1 1 [.int .i64 (p)] rfl rfl (World.news_of_block (cs := #[.int .i64 (p)]) (t := 3) (fr := (0, 0)) (tmp_new w5 _)) (one_int _ _) (by decide) (by unfold maxLen; omega) (by omega) (HO2.out.alloc _).below.size _ rfl ?_; intro gX cX wX ownX groX hatX hltX; have HO3 : Hid (Out2 w (.slice (some ⟨gX, 0, none⟩) (xs.length + 1) cX) (.slice ya ys.length yc) (xs ++ [p]) ys wX) := (HO2.out.alloc _).pushX ownX groX hatX; clear ownX groX hatX hltX) | (at_builtin; refine wpList_append_lies _ rfl (.tmp 75) (.tmp 77) 56 rfl w.heap.size 3 i3 (.int .i64 0) 1 8 undI3 h3a h3b h3c h3d rfl (by decide) (.slice ya ys.length yc) ys.length (intsC ys) rfl (HO3.out.alloc _).oy ⟨wX.heap.size, 0, none⟩ 1 1 [.int .i64 (p - q)] rfl rfl (World.news_of_block (cs := #[.int .i64 (p - q)]) (t := 3) (fr := (0, 0)) (tmp_new wX _)) (one_int _ _) (by decide) (by unfold maxLen; omega) (by omega) (HO3.out.alloc _).below.size _ rfl ?_; intro gY cY wY ownY groY hatY hltY; have HO4 : Hid (Out2 w (.slice (some ⟨gX, 0, none⟩) (xs.length + 1) cX) (.slice (some ⟨gY, 0, none⟩) (ys.length + 1) cY) (xs ++ [p]) (ys ++ [p - q]) wY) := (HO3.out.alloc _).pushY ownY groY hatY; clear ownY groY hatY hltY))
         go_roundw
         case rel => exact ⟨i + 1, _, _, by omega, by go_num, rfl, rfl, by rw [HN1.out, HN2.out]; exact HO4.out⟩
         case measure => simp [intOf]; omega
        ·have hie : i = a.length := by omega
         subst hie;have HI : Hid (IntsAt wr xa (zipN (stP 1) a b a.length) /\ IntsAt wr ya (zipN (stQ 1) a b a.length) /\ Lo w wr) := ⟨own_ints hout.ox (by rw [zipN_len]; omega) HNP.out, own_ints hout.oy (by rw [zipN_len]; omega) HNQ.out, hout.below⟩
         clear hout;generalize zipN (stP 1) a b a.length = xs at *;generalize zipN (stQ 1) a b a.length = ys at *
         go_wp2_with fail
         go_ret3
         exact ret3_some HR.out rfl HI.out.1 HI.out.2.1 HI.out.2.2
      ·have HR : Hid (stR (2 : Int) a b = some (zipN (stP 2) a b a.length, zipN (stQ 2) a b a.length)) := by show _ = _; unfold stR; rw [if_pos ⟨⟨by decide, by decide⟩, hlen, ha1, hb1⟩]; rfl
       have HNP : Hid (Rng (zipN (stP 2) a b a.length)) := zipN_num _ a b 1099511627776 (by decide) ha1 hb1 (fun p q h1 h2 => by show _ <= p - q /\ p - q <= _; omega) _
       have HNQ : Hid (Rng (zipN (stQ 2) a b a.length)) := zipN_num _ a b 1099511627776 (by decide) ha1 hb1 (fun p q h1 h2 => by show _ <= q /\ q <= _; omega) _
       have HSP : Hid (∀ i, zipN (stP 2) a b (i + 1) = zipN (stP 2) a b i ++ [stP 2 (a.getD i 0) (b.getD i 0)]) := fun i => rfl;have HSQ : Hid (∀ i, zipN (stQ 2) a b (i + 1) = zipN (stQ 2) a b i ++ [stQ 2 (a.getD i 0) (b.getD i 0)]) := fun i => rfl;have HIB : Hid (∀ i, (-1099511627776 <= a.getD i 0 /\ a.getD i 0 <= 1099511627776) /\ (-1099511627776 <= b.getD i 0 /\ b.getD i 0 <= 1099511627776)) := fun i => ⟨inB_at a 1099511627776 ha1 (by decide) i, inB_at b 1099511627776 hb1 (by decide) i⟩
       have HFP : Hid (∀ p q : Int, stP 2 p q = p - q) := fun p q => rfl;have HFQ : Hid (∀ p q : Int, stQ 2 p q = q) := fun p q => rfl;rw [ha1] at KA;rw [hb1] at KB;clear ha1 hb1 ha hb hlen h3;go_enter Tryz.func28, Tryz.ntmps28
       go_wp2_with fail
       refine KA.out.mono ?_;rintro e w2 ⟨rfl, hw2⟩;subst hw2
       go_wp2_with fail
       refine KB.out.mono ?_;rintro e w2 ⟨rfl, hw2⟩;subst hw2
       go_wp2_with fail
       clear KA KB;obtain ⟨w, hww⟩ : ∃ w, w = w2 := ⟨_, rfl⟩;subst hww
       go_loopw [9, 10, 11] (fun s s2 t wr => ∃ (i : Nat) (vx vy : Value), i <= a.length /\ t = .int .i64 (i : Int) /\ s = vx /\ s2 = vy /\ Out2 w vx vy (zipN (stP 2) a b i) (zipN (stQ 2) a b i) wr) (fun _ _ t _ => a.length - (intOf t).toNat)
       case atStart => exact ⟨0, _, _, Nat.zero_le _, rfl, rfl, rfl, Out2.nil w⟩
       case round =>
        obtain ⟨i, vx, vy, hi, rfl, rfl, rfl, hout⟩ := hrel;obtain ⟨xa, xc, ya, yc, rfl, rfl⟩ := hout.shape;by_cases hlt : i < a.length
        ·obtain ⟨b1, o1, rfl, q1⟩ := HA.out.at i hlt
         obtain ⟨b2, o2, rfl, q2⟩ := HB.out.at i (by have := HLN.out; omega)
         have r1 := q1 wr hout.below;have r2 := q2 wr hout.below;clear q1 q2;have HN1 := kQ (HSP.out i);have HN2 := kQ (HSQ.out i);obtain ⟨⟨p1, p2⟩, ⟨q1, q2⟩⟩ := HIB.out i;rw [HFP.out] at HN1;rw [HFQ.out] at HN2;have hlx := zipN_len (stP 2) a b i;have hly := zipN_len (stQ 2) a b i;have hx5 : (zipN (stP 2) a b i).length <= 17592186044415 := by omega
         have hy5 : (zipN (stQ 2) a b i).length <= 17592186044415 := by omega
         clear hlx hly;generalize zipN (stP 2) a b i = xs at *;generalize zipN (stQ 2) a b i = ys at *;generalize a.getD i 0 = p at *;generalize b.getD i 0 = q at *;have HO := kQ hout;clear hout;have hibl : (i : Int) < (b.length : Int) := by omega
         go_wp2_with fail
         go_quiet (fail)
         have HO2 : Hid (Out2 w (.slice xa xs.length xc) (.slice ya ys.length yc) xs ys (wr.drewN nq)) := HO.out.low (below_drewN _ _);generalize wr.drewN nq = w5 at *;clear r1 r2 HO
         go_wp2_with (first | (at_builtin; refine wpList_append_lies _ rfl (.tmp 71) (.tmp 73) 56 rfl w.heap.size 3 i3 (.int .i64 0) 1 8 undI3 h3a h3b h3c h3d rfl (by decide) (.slice xa xs.length xc) xs.length (intsC xs) rfl (HO2.out.alloc _).ox ⟨w5.heap.size, 0, none⟩ 1 1 [.int .i64 (p - q)] rfl rfl (World.news_of_block (cs := #[.int .i64 (p - q)]) (t := 3) (fr := (0, 0)) (tmp_new w5 _)) (one_int _ _) (by decide) (by unfold maxLen; omega) (by omega) (HO2.out.alloc _).below.size _ rfl ?_; intro gX cX wX ownX groX hatX hltX; have HO3 : Hid (Out2 w (.slice (some ⟨gX, 0, none⟩) (xs.length + 1) cX) (.slice ya ys.length yc) (xs ++ [p - q]) ys wX) := (HO2.out.alloc _).pushX ownX groX hatX; clear ownX groX hatX hltX) | (at_builtin; refine wpList_append_lies _ rfl (.tmp 75) (.tmp 77) 56 rfl w.heap.size 3 i3 (.int .i64 0) 1 8 undI3 h3a h3b h3c h3d rfl (by decide) (.slice ya ys.length yc) ys.length (intsC ys) rfl (HO3.out.alloc _).oy ⟨wX.heap.size, 0, none⟩ 1 1 [.int .i64 (q)] rfl rfl (World.news_of_block (cs := #[.int .i64 (q)]) (t := 3) (fr := (0, 0)) (tmp_new wX _)) (one_int _ _) (by decide) (by unfold maxLen; omega) (by omega) (HO3.out.alloc _).below.size _ rfl ?_; intro gY cY wY ownY groY hatY hltY; have HO4 : Hid (Out2 w (.slice (some ⟨gX, 0, none⟩) (xs.length + 1) cX) (.slice (some ⟨gY, 0, none⟩) (ys.length + 1) cY) (xs ++ [p - q]) (ys ++ [q]) wY) := (HO3.out.alloc _).pushY ownY groY hatY; clear ownY groY hatY hltY))
         go_roundw
         case rel => exact ⟨i + 1, _, _, by omega, by go_num, rfl, rfl, by rw [HN1.out, HN2.out]; exact HO4.out⟩
         case measure => simp [intOf]; omega
        ·have hie : i = a.length := by omega
         subst hie;have HI : Hid (IntsAt wr xa (zipN (stP 2) a b a.length) /\ IntsAt wr ya (zipN (stQ 2) a b a.length) /\ Lo w wr) := ⟨own_ints hout.ox (by rw [zipN_len]; omega) HNP.out, own_ints hout.oy (by rw [zipN_len]; omega) HNQ.out, hout.below⟩
         clear hout;generalize zipN (stP 2) a b a.length = xs at *;generalize zipN (stQ 2) a b a.length = ys at *
         go_wp2_with fail
         go_ret3
         exact ret3_some HR.out rfl HI.out.1 HI.out.2.1 HI.out.2.2
      ·have HR : Hid (stR (3 : Int) a b = some (zipN (stP 3) a b a.length, zipN (stQ 3) a b a.length)) := by show _ = _; unfold stR; rw [if_pos ⟨⟨by decide, by decide⟩, hlen, ha1, hb1⟩]; rfl
       have HNP : Hid (Rng (zipN (stP 3) a b a.length)) := zipN_num _ a b 1099511627776 (by decide) ha1 hb1 (fun p q h1 h2 => by show _ <= (p + q) / 2 /\ (p + q) / 2 <= _; omega) _
       have HNQ : Hid (Rng (zipN (stQ 3) a b a.length)) := zipN_num _ a b 1099511627776 (by decide) ha1 hb1 (fun p q h1 h2 => by show _ <= p - q /\ p - q <= _; omega) _
       have HSP : Hid (∀ i, zipN (stP 3) a b (i + 1) = zipN (stP 3) a b i ++ [stP 3 (a.getD i 0) (b.getD i 0)]) := fun i => rfl;have HSQ : Hid (∀ i, zipN (stQ 3) a b (i + 1) = zipN (stQ 3) a b i ++ [stQ 3 (a.getD i 0) (b.getD i 0)]) := fun i => rfl;have HIB : Hid (∀ i, (-1099511627776 <= a.getD i 0 /\ a.getD i 0 <= 1099511627776) /\ (-1099511627776 <= b.getD i 0 /\ b.getD i 0 <= 1099511627776)) := fun i => ⟨inB_at a 1099511627776 ha1 (by decide) i, inB_at b 1099511627776 hb1 (by decide) i⟩
       have HFP : Hid (∀ p q : Int, stP 3 p q = (p + q) / 2) := fun p q => rfl;have HFQ : Hid (∀ p q : Int, stQ 3 p q = p - q) := fun p q => rfl;rw [ha1] at KA;rw [hb1] at KB;clear ha1 hb1 ha hb hlen h3;go_enter Tryz.func28, Tryz.ntmps28
       go_wp2_with fail
       refine KA.out.mono ?_;rintro e w2 ⟨rfl, hw2⟩;subst hw2
       go_wp2_with fail
       refine KB.out.mono ?_;rintro e w2 ⟨rfl, hw2⟩;subst hw2
       go_wp2_with fail
       clear KA KB;obtain ⟨w, hww⟩ : ∃ w, w = w2 := ⟨_, rfl⟩;subst hww
       go_loopw [9, 10, 11] (fun s s2 t wr => ∃ (i : Nat) (vx vy : Value), i <= a.length /\ t = .int .i64 (i : Int) /\ s = vx /\ s2 = vy /\ Out2 w vx vy (zipN (stP 3) a b i) (zipN (stQ 3) a b i) wr) (fun _ _ t _ => a.length - (intOf t).toNat)
       case atStart => exact ⟨0, _, _, Nat.zero_le _, rfl, rfl, rfl, Out2.nil w⟩
       case round =>
        obtain ⟨i, vx, vy, hi, rfl, rfl, rfl, hout⟩ := hrel;obtain ⟨xa, xc, ya, yc, rfl, rfl⟩ := hout.shape;by_cases hlt : i < a.length
        ·obtain ⟨b1, o1, rfl, q1⟩ := HA.out.at i hlt
         obtain ⟨b2, o2, rfl, q2⟩ := HB.out.at i (by have := HLN.out; omega)
         have r1 := q1 wr hout.below;have r2 := q2 wr hout.below;clear q1 q2;have HN1 := kQ (HSP.out i);have HN2 := kQ (HSQ.out i);obtain ⟨⟨p1, p2⟩, ⟨q1, q2⟩⟩ := HIB.out i;rw [HFP.out] at HN1;rw [HFQ.out] at HN2;have hlx := zipN_len (stP 3) a b i;have hly := zipN_len (stQ 3) a b i;have hx5 : (zipN (stP 3) a b i).length <= 17592186044415 := by omega
         have hy5 : (zipN (stQ 3) a b i).length <= 17592186044415 := by omega
         clear hlx hly;generalize zipN (stP 3) a b i = xs at *;generalize zipN (stQ 3) a b i = ys at *;generalize a.getD i 0 = p at *;generalize b.getD i 0 = q at *;have HO := kQ hout;clear hout;have hibl : (i : Int) < (b.length : Int) := by omega
         go_wp2_with fail
         go_quiet (fail)
         have HO2 : Hid (Out2 w (.slice xa xs.length xc) (.slice ya ys.length yc) xs ys (wr.drewN nq)) := HO.out.low (below_drewN _ _);generalize wr.drewN nq = w5 at *;clear r1 r2 HO
         go_wp2_with (first | (at_builtin; refine wpList_append_lies _ rfl (.tmp 71) (.tmp 73) 56 rfl w.heap.size 3 i3 (.int .i64 0) 1 8 undI3 h3a h3b h3c h3d rfl (by decide) (.slice xa xs.length xc) xs.length (intsC xs) rfl (HO2.out.alloc _).ox ⟨w5.heap.size, 0, none⟩ 1 1 [.int .i64 ((p + q) / 2)] rfl rfl (World.news_of_block (cs := #[.int .i64 ((p + q) / 2)]) (t := 3) (fr := (0, 0)) (tmp_new w5 _)) (one_int _ _) (by decide) (by unfold maxLen; omega) (by omega) (HO2.out.alloc _).below.size _ rfl ?_; intro gX cX wX ownX groX hatX hltX; have HO3 : Hid (Out2 w (.slice (some ⟨gX, 0, none⟩) (xs.length + 1) cX) (.slice ya ys.length yc) (xs ++ [(p + q) / 2]) ys wX) := (HO2.out.alloc _).pushX ownX groX hatX; clear ownX groX hatX hltX) | (at_builtin; refine wpList_append_lies _ rfl (.tmp 75) (.tmp 77) 56 rfl w.heap.size 3 i3 (.int .i64 0) 1 8 undI3 h3a h3b h3c h3d rfl (by decide) (.slice ya ys.length yc) ys.length (intsC ys) rfl (HO3.out.alloc _).oy ⟨wX.heap.size, 0, none⟩ 1 1 [.int .i64 (p - q)] rfl rfl (World.news_of_block (cs := #[.int .i64 (p - q)]) (t := 3) (fr := (0, 0)) (tmp_new wX _)) (one_int _ _) (by decide) (by unfold maxLen; omega) (by omega) (HO3.out.alloc _).below.size _ rfl ?_; intro gY cY wY ownY groY hatY hltY; have HO4 : Hid (Out2 w (.slice (some ⟨gX, 0, none⟩) (xs.length + 1) cX) (.slice (some ⟨gY, 0, none⟩) (ys.length + 1) cY) (xs ++ [(p + q) / 2]) (ys ++ [p - q]) wY) := (HO3.out.alloc _).pushY ownY groY hatY; clear ownY groY hatY hltY))
         go_roundw
         case rel => exact ⟨i + 1, _, _, by omega, by go_num, rfl, rfl, by rw [HN1.out, HN2.out]; exact HO4.out⟩
         case measure => simp [intOf]; omega
        ·have hie : i = a.length := by omega
         subst hie;have HI : Hid (IntsAt wr xa (zipN (stP 3) a b a.length) /\ IntsAt wr ya (zipN (stQ 3) a b a.length) /\ Lo w wr) := ⟨own_ints hout.ox (by rw [zipN_len]; omega) HNP.out, own_ints hout.oy (by rw [zipN_len]; omega) HNQ.out, hout.below⟩
         clear hout;generalize zipN (stP 3) a b a.length = xs at *;generalize zipN (stQ 3) a b a.length = ys at *
         go_wp2_with fail
         go_ret3
         exact ret3_some HR.out rfl HI.out.1 HI.out.2.1 HI.out.2.2
 rotate_left
 all_goals
  have HR : Hid (stR m a b = none) := by show _ = _; unfold stR; rw [if_neg (fun h => by omega)]
  go_enter Tryz.func28, Tryz.ntmps28
  go_wp2_with fail
  go_ret3
  exact ret3_none HR.out rfl (Below.refl _ _)
end Go.Proofs.YtfpfabmbipmipaaGreatDoor
