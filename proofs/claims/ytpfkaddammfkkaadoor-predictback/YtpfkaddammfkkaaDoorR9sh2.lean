/- Own text: the document's Shift and Unshift. -/
import Derived.Test.YtpfkaddammfkkaaDoorR9was
namespace Go.Proofs.YtpfkaddammfkkaaDoor
open Go.RowKit
set_option linter.unusedSimpArgs false
set_option linter.unusedVariables false

def shfR (l : List Int) (k : Int) : Option (List Int) := if (0 ≤ k ∧ k ≤ 31) ∧ dvB l k.toNat = true then some (shrL l k.toNat) else none
def unsR (l : List Int) (k : Int) : Option (List Int) := if 0 ≤ k ∧ k ≤ 31 then some (shlL l k.toNat) else none
theorem map_next (f : Int → Int) (l : List Int) (i : Nat) (h : i < l.length) : (l.take (i + 1)).map f = (l.take i).map f ++ [f (l.getD i 0)] := by
  rw [← take_next l i h, List.map_append]; rfl
theorem shrL_rng (l : List Int) (k : Nat) (h : Rng l) : Rng (shrL l k) := by
  intro x hx
  obtain ⟨n, hn, rfl⟩ := List.mem_map.1 hx
  exact shr_rng n k (h n hn)
theorem shlL_rng (l : List Int) (k : Nat) : Rng (shlL l k) := by
  intro x hx
  obtain ⟨n, hn, rfl⟩ := List.mem_map.1 hx
  exact wrap_rng _
set_option maxRecDepth 20000 in
set_option maxHeartbeats 3200000 in
theorem xshift_spec (l : List Int) (k : Int) (la : Option Addr) (lc : Nat) (w : World) (hl : IntsAt w la l) : Calls Tryd.prog 20 #[.slice la l.length lc, .int .i64 k] w (Ret2 (shfR l k) w) := by
  obtain ⟨i3, h3a, h3b, h3c, h3d⟩ := int_info
  have hln := hl.len
  by_cases h1 : k < 0
  · have HR : Hid (shfR l k = none) := by show _ = _; unfold shfR; rw [if_neg (fun h => by omega)]
    go_enter Tryd.func20, Tryd.ntmps20
    go_wp2_with fail
    go_ret2
    exact ret_none HR.out rfl (Below.refl _ _)
  · skip
    by_cases h2 : 31 < k
    · have HR : Hid (shfR l k = none) := by show _ = _; unfold shfR; rw [if_neg (fun h => by omega)]
      go_enter Tryd.func20, Tryd.ntmps20
      go_wp2_with fail
      go_ret2
      exact ret_none HR.out rfl (Below.refl _ _)
    · skip
      obtain ⟨k', rfl⟩ : ∃ k' : Nat, k = (k' : Int) := ⟨k.toNat, by omega⟩
      have hk31 : k' ≤ 31 := by omega
      have kd := xdiv_spec l k' hk31 la lc w hl
      have HL : Hid (IntsAt w la l) := hl
      clear hl
      cases hd : dvB l k' with
      | false =>
        have HR : Hid (shfR l (k' : Int) = none) := by show _ = _; unfold shfR; rw [if_neg (fun h => by have h2 := h.2; rw [Int.toNat_natCast, hd] at h2; cases h2)]
        rw [hd] at kd
        clear hd
        go_enter Tryd.func20, Tryd.ntmps20
        go_wp2_with fail
        refine kd.mono ?_
        rintro e w2 ⟨rfl, rfl⟩
        go_wp2_with fail
        go_ret2
        exact ret_none HR.out rfl (Below.refl _ _)
      | true =>
        have HR : Hid (shfR l (k' : Int) = some (shrL l k')) := by show _ = _; unfold shfR; rw [if_pos ⟨by omega, by rw [Int.toNat_natCast]; exact hd⟩]; rfl
        rw [hd] at kd
        clear hd
        go_enter Tryd.func20, Tryd.ntmps20
        go_wp2_with fail
        refine kd.mono ?_
        rintro e w2 ⟨rfl, hw2⟩
        subst hw2
        clear kd
        obtain ⟨w, hww⟩ : ∃ w, w = w2 := ⟨_, rfl⟩
        subst hww
        go_wp2_with fail
        go_loopw [6, 7] (fun s t wr => ∃ (i : Nat) (v : Value), i ≤ l.length ∧ t = .int .i64 (i : Int) ∧ s = v ∧ Out w v ((l.take i).map (fun n => n / 2 ^ k')) wr) (fun _ t _ => l.length - (intOf t).toNat)
        case atStart => exact ⟨0, _, Nat.zero_le _, rfl, rfl, Out.nil w⟩
        case round =>
          obtain ⟨i, v, hi, rfl, rfl, hout⟩ := hrel
          obtain ⟨oa, oc, rfl⟩ := hout.shape
          by_cases hlt : i < l.length
          · obtain ⟨b1, o1, rfl, q1⟩ := HL.out.at i hlt
            have r1 := q1 wr hout.below
            clear q1
            have HN : Hid ((l.take (i + 1)).map (fun n => n / 2 ^ k') = (l.take i).map (fun n => n / 2 ^ k') ++ [(fun n => n / 2 ^ k') (l.getD i 0)]) := map_next _ l i hlt
            have hx5 : ((l.take i).map (fun n => n / 2 ^ k')).length ≤ 17592186044415 := by rw [List.length_map, List.length_take]; omega
            have hxr := HL.out.rng i
            generalize (l.take i).map (fun n => n / 2 ^ k') = xs at *
            generalize l.getD i 0 = x at *
            have HO : Hid (Out w (.slice oa xs.length oc) xs wr) := hout
            clear hout
            go_wp2_with (at_builtin; refine wpList_append_lies _ rfl (.tmp 26) (.tmp 34) 22 rfl w.heap.size 3 i3 (.int .i64 0) 1 8 undI3 h3a h3b h3c h3d rfl (by decide) (.slice oa xs.length oc) xs.length (intsC xs) rfl (HO.out.alloc _).own ⟨wr.heap.size, 0, none⟩ 1 1 [.int .i64 (x / 2 ^ k')] rfl rfl (World.news_of_block (cs := #[.int .i64 (x / 2 ^ k')]) (t := 3) (fr := (0, 0)) (tmp_new wr _)) (one_int _ _) (by decide) (by unfold maxLen; omega) (by omega) (HO.out.alloc _).below.size _ rfl ?_; intro gA cA wA ownA groA hatA hltA)
            have HPA : Hid (Out w (.slice (some ⟨gA, 0, none⟩) (xs.length + 1) cA) (xs ++ [(x / 2 ^ k')]) wA) := (HO.out.alloc _).push ownA groA
            clear ownA groA hatA hltA
      
            go_wp2_with fail
            go_roundw
            case rel => exact ⟨i + 1, _, by omega, by go_num, rfl, by rw [HN.out]; exact HPA.out⟩
            case measure => simp [intOf]; omega
          · have hie : i = l.length := by omega
            subst hie
            rw [List.take_of_length_le (Nat.le_refl _)] at hout
            have e : (l.take l.length).map (fun n => n / 2 ^ k') = shrL l k' := by rw [List.take_of_length_le (Nat.le_refl _)]; rfl
            rw [e]
            have hout2 : Out w (.slice oa (shrL l k').length oc) (shrL l k') wr := by
              have e2 : (l.map (fun n => n / 2 ^ k')) = shrL l k' := rfl
              rw [← e2]
              exact hout
            have HI : Hid (IntsAt wr oa (shrL l k') ∧ Below w.heap.size w wr) := ⟨hout2.ints (by show (l.map _).length ≤ _; rw [List.length_map]; omega) (shrL_rng l k' HL.out.num), hout2.below⟩
            clear hout hout2 e
            generalize shrL l k' = R at *
            go_wp2_with fail
            go_ret2
            exact ret_some HR.out rfl HI.out.1 HI.out.2
set_option maxRecDepth 20000 in
set_option maxHeartbeats 3200000 in
theorem xunshift_spec (l : List Int) (k : Int) (la : Option Addr) (lc : Nat) (w : World) (hl : IntsAt w la l) : Calls Tryd.prog 22 #[.slice la l.length lc, .int .i64 k] w (Ret2 (unsR l k) w) := by
  obtain ⟨i3, h3a, h3b, h3c, h3d⟩ := int_info
  have hln := hl.len
  by_cases h1 : k < 0
  · have HR : Hid (unsR l k = none) := by show _ = _; unfold unsR; rw [if_neg (fun h => by omega)]
    go_enter Tryd.func22, Tryd.ntmps22
    go_wp2_with fail
    go_ret2
    exact ret_none HR.out rfl (Below.refl _ _)
  · skip
    by_cases h2 : 31 < k
    · have HR : Hid (unsR l k = none) := by show _ = _; unfold unsR; rw [if_neg (fun h => by omega)]
      go_enter Tryd.func22, Tryd.ntmps22
      go_wp2_with fail
      go_ret2
      exact ret_none HR.out rfl (Below.refl _ _)
    · skip
      obtain ⟨k', rfl⟩ : ∃ k' : Nat, k = (k' : Int) := ⟨k.toNat, by omega⟩
      have hk31 : k' ≤ 31 := by omega
      have HL : Hid (IntsAt w la l) := hl
      clear hl
      have HR : Hid (unsR l (k' : Int) = some (shlL l k')) := by show _ = _; unfold unsR; rw [if_pos (by omega)]; rfl
      go_enter Tryd.func22, Tryd.ntmps22
      go_wp2_with fail
      go_loopw [6, 7] (fun s t wr => ∃ (i : Nat) (v : Value), i ≤ l.length ∧ t = .int .i64 (i : Int) ∧ s = v ∧ Out w v ((l.take i).map (fun n => wrap64 (n * 2 ^ k'))) wr) (fun _ t _ => l.length - (intOf t).toNat)
      case atStart => exact ⟨0, _, Nat.zero_le _, rfl, rfl, Out.nil w⟩
      case round =>
        obtain ⟨i, v, hi, rfl, rfl, hout⟩ := hrel
        obtain ⟨oa, oc, rfl⟩ := hout.shape
        by_cases hlt : i < l.length
        · obtain ⟨b1, o1, rfl, q1⟩ := HL.out.at i hlt
          have r1 := q1 wr hout.below
          clear q1
          have HN : Hid ((l.take (i + 1)).map (fun n => wrap64 (n * 2 ^ k')) = (l.take i).map (fun n => wrap64 (n * 2 ^ k')) ++ [(fun n => wrap64 (n * 2 ^ k')) (l.getD i 0)]) := map_next _ l i hlt
          have hx5 : ((l.take i).map (fun n => wrap64 (n * 2 ^ k'))).length ≤ 17592186044415 := by rw [List.length_map, List.length_take]; omega
          have hxr := HL.out.rng i
          generalize (l.take i).map (fun n => wrap64 (n * 2 ^ k')) = xs at *
          generalize l.getD i 0 = x at *
          have HO : Hid (Out w (.slice oa xs.length oc) xs wr) := hout
          clear hout
          go_wp2_with (at_builtin; refine wpList_append_lies _ rfl (.tmp 20) (.tmp 28) 22 rfl w.heap.size 3 i3 (.int .i64 0) 1 8 undI3 h3a h3b h3c h3d rfl (by decide) (.slice oa xs.length oc) xs.length (intsC xs) rfl (HO.out.alloc _).own ⟨wr.heap.size, 0, none⟩ 1 1 [.int .i64 (wrap64 (x * 2 ^ k'))] rfl rfl (World.news_of_block (cs := #[.int .i64 (wrap64 (x * 2 ^ k'))]) (t := 3) (fr := (0, 0)) (tmp_new wr _)) (one_int _ _) (by decide) (by unfold maxLen; omega) (by omega) (HO.out.alloc _).below.size _ rfl ?_; intro gA cA wA ownA groA hatA hltA)
          have HPA : Hid (Out w (.slice (some ⟨gA, 0, none⟩) (xs.length + 1) cA) (xs ++ [(wrap64 (x * 2 ^ k'))]) wA) := (HO.out.alloc _).push ownA groA
          clear ownA groA hatA hltA
      
          go_wp2_with fail
          go_roundw
          case rel => exact ⟨i + 1, _, by omega, by go_num, rfl, by rw [HN.out]; exact HPA.out⟩
          case measure => simp [intOf]; omega
        · have hie : i = l.length := by omega
          subst hie
          rw [List.take_of_length_le (Nat.le_refl _)] at hout
          have e : (l.take l.length).map (fun n => wrap64 (n * 2 ^ k')) = shlL l k' := by rw [List.take_of_length_le (Nat.le_refl _)]; rfl
          rw [e]
          have hout2 : Out w (.slice oa (shlL l k').length oc) (shlL l k') wr := by
            have e2 : (l.map (fun n => wrap64 (n * 2 ^ k'))) = shlL l k' := rfl
            rw [← e2]
            exact hout
          have HI : Hid (IntsAt wr oa (shlL l k') ∧ Below w.heap.size w wr) := ⟨hout2.ints (by show (l.map _).length ≤ _; rw [List.length_map]; omega) (shlL_rng l k'), hout2.below⟩
          clear hout hout2 e
          generalize shlL l k' = R at *
          go_wp2_with fail
          go_ret2
          exact ret_some HR.out rfl HI.out.1 HI.out.2

end Go.Proofs.YtpfkaddammfkkaaDoor
