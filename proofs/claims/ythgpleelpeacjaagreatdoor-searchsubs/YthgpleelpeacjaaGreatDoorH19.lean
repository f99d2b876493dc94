/- Own text. -/
import Derived.Test.YthgpleelpeacjaaGreatDoorH18
import Derived.Test.YthgpleelpeacjaaGreatDoorH17
set_option linter.unusedSimpArgs false
set_option linter.unusedVariables false
set_option maxRecDepth 20000
set_option maxHeartbeats 12800000
namespace Go.Proofs.YthgpleelpeacjaaGreatDoor
open Go.RowKit
theorem xenc_all (c : Rc) (l : List Int) (hs : ShX l) (pa : Option Addr) (pc : Nat) (ea : Option Addr) (ec : Nat) (lo : Option Addr) (cap : Nat) (x : Nat) (w : World) (hr : RcAt w c pa ea) (hl : IntsAt w lo l) (ao : Option Addr) (B : List Nat) (hB : B.length ≤ 1300000000000) (hw : XwB w x ao B) (b r : Int) :
  Calls Tryz.prog 153 #[.pointer (some ⟨x, 0, none⟩), riceV c pa pc ea ec, .int .i64 b, .int .i64 r, .slice lo l.length cap] w fun en w' => en = .returned (.int .i64 (encN c b r l)) ∧ ∃ ao', XwB w' x ao' (B ++ encL c b r l) ∧ Stays (foot x ao) w w' ∧ Moved w.heap.size ao ao' := by
 have fin : encR c b r l = false → ∀ (e : Ending) (w' : World), e = .returned (.int .i64 60) ∧ Below w.heap.size w w' → e = .returned (.int .i64 (encN c b r l)) ∧ ∃ ao', XwB w' x ao' (B ++ encL c b r l) ∧ Stays (foot x ao) w w' ∧ Moved w.heap.size ao ao' := fun hR e w' hh => by
  have e1 : encN c b r l = 60 := by unfold encN; rw [hR]; rfl
  have e2 : encL c b r l = [] := by unfold encL; rw [hR]; rfl
  rw [e1, e2, List.append_nil]
  exact ⟨hh.1, ao, hw.below hh.2, Stays.of_below hh.2 _, Moved.refl _ _⟩
 by_cases hch : chkOk c b r
 ·obtain ⟨b', r', o', rfl, rfl, hk⟩ := Rok.of hch
  have e : c.o.toNat = o' := by have := hk.ho; omega
  have hRe : encR c b' r' l = fitB c b' o' r' l := by
   unfold encR
   rw [decide_eq_true hch, e]
   simp
  by_cases hlen : l.length = b' - r'
  ·refine (xenc_main c l hs pa pc ea ec lo cap x w hr hl ao B hB hw b' o' r' hk hlen).mono fun e w' hh => ?_
   obtain ⟨h1, ao', h2, h3, h4⟩ := hh
   rw [← hRe] at h1 h2
   unfold encN encL
   refine ⟨h1, ao', ?_, h3, h4⟩
   cases hq : encR c b' r' l with
   | true => rw [hq] at h2; exact h2
   | false =>
    rw [hq] at h2
    have h2' : XwB w' x ao' B := h2
    show XwB w' x ao' (B ++ [])
    rw [List.append_nil]; exact h2'
  ·refine (xenc_len c l hs pa pc ea ec lo cap x w hr hl b' o' r' hk hlen).mono (fin ?_)
   rw [hRe]
   exact fitB_no (fun hh => hlen hh.1)
 ·refine (xenc_chk c l hs pa pc ea ec lo cap x w hr hl b r hch).mono (fin ?_)
  unfold encR
  rw [decide_eq_false hch]
  rfl
theorem own_fr {w : World} {base e z : Nat} {ao : Option Addr} {n cap m : Nat} {xs : List Value} (h : w.ownsRow base e z (.slice ao n cap) m xs) : Fr base ao := by
 rcases h.2 with ⟨hv, _⟩ | ⟨g, cap2, cur, hv, hb, _⟩
 ·cases hv; intro b hb; cases hb
 ·cases hv; intro b hb2; have e : g = b := by simpa [blockOf] using hb2
  omega
def Ret2F (R : Option (List Int)) (w : World) (e : Ending) (w' : World) : Prop := ∃ la lc, e = .returned (.tuple #[.slice la (ansL R).length lc, .int .i64 (ansE R)]) ∧ IntsAt w' la (ansL R) ∧ Fr w.heap.size la ∧ Below w.heap.size w w'
theorem retf_none {R : Option (List Int)} (h : R = none) {w w' : World} {e : Ending} (he : e = .returned (.tuple #[.slice none 0 0, .int .i64 1])) (hb : Below w.heap.size w w') : Ret2F R w e w' := by
 subst h; exact ⟨none, 0, he, IntsAt.nil w', (fun b hb => by cases hb), hb⟩
theorem retf_some {R : Option (List Int)} {L : List Int} (h : R = some L) {w w' : World} {e : Ending} {la : Option Addr} {lc : Nat} (he : e = .returned (.tuple #[.slice la L.length lc, .int .i64 0])) (hi : IntsAt w' la L) (hf : Fr w.heap.size la) (hb : Below w.heap.size w w') : Ret2F R w e w' := by
 subst h; exact ⟨la, lc, he, hi, hf, hb⟩
theorem xshift_fr (l : List Int) (k : Int) (la : Option Addr) (lc : Nat) (w : World) (hl : IntsAt w la l) : Calls Tryz.prog 31 #[.slice la l.length lc, .int .i64 k] w (Ret2F (shfR l k) w) := by
 obtain ⟨i3, h3a, h3b, h3c, h3d⟩ := int_info
 have hln := hl.len
 by_cases h1 : k < 0
 ·have HR : Hid (shfR l k = none) := by show _ = _; unfold shfR; rw [if_neg (fun h => by omega)]
  go_enter Tryz.func31, Tryz.ntmps31
  go_wp2_with fail
  go_ret2
  exact retf_none HR.out rfl (Below.refl _ _)
 ·skip
  by_cases h2 : 31 < k
  ·have HR : Hid (shfR l k = none) := by show _ = _; unfold shfR; rw [if_neg (fun h => by omega)]
   go_enter Tryz.func31, Tryz.ntmps31
   go_wp2_with fail
   go_ret2
   exact retf_none HR.out rfl (Below.refl _ _)
  ·skip
   obtain ⟨k', rfl⟩ : ∃ k' : Nat, k = (k' : Int) := ⟨k.toNat, by omega⟩
   have hk31 : k' ≤ 31 := by omega
   have kd := xdiv_spec l k' hk31 la lc w hl
   have HL : Hid (IntsAt w la l) := hl
   clear hl
   cases hd : dvB l k' with
   | false =>
    have HR : Hid (shfR l (k' : Int) = none) := by show _ = _; unfold shfR; rw [if_neg (fun h => by have h2 := h.2; rw [Int.toNat_natCast, hd] at h2; cases h2)]
    rw [hd] at kd
    clear hd
    go_enter Tryz.func31, Tryz.ntmps31
    go_wp2_with fail
    refine kd.mono ?_
    rintro e w2 ⟨rfl, rfl⟩
    go_wp2_with fail
    go_ret2
    exact retf_none HR.out rfl (Below.refl _ _)
   | true =>
    have HR : Hid (shfR l (k' : Int) = some (shrL l k')) := by show _ = _; unfold shfR; rw [if_pos ⟨by omega, by rw [Int.toNat_natCast]; exact hd⟩]; rfl
    rw [hd] at kd
    clear hd
    go_enter Tryz.func31, Tryz.ntmps31
    go_wp2_with fail
    refine kd.mono ?_
    rintro e w2 ⟨rfl, hw2⟩
    subst hw2
    clear kd
    obtain ⟨w, hww⟩ : ∃ w, w = w2 := ⟨_, rfl⟩
    subst hww
    go_wp2_with fail
    go_loopw [6, 7] (fun s t wr => ∃ (i : Nat) (v : Value), i ≤ l.length ∧ t = .int .i64 (i : Int) ∧ s = v ∧ Out w v ((l.take i).map (fun n => n / 2 ^ k')) wr) (fun _ t _ => l.length - (intOf t).toNat)
    case atStart => exact ⟨0, _, Nat.zero_le _, rfl, rfl, Out.nil w⟩
    case round =>
     obtain ⟨i, v, hi, rfl, rfl, hout⟩ := hrel
     obtain ⟨oa, oc, rfl⟩ := hout.shape
     by_cases hlt : i < l.length
     ·obtain ⟨b1, o1, rfl, q1⟩ := HL.out.at i hlt
      have r1 := q1 wr hout.below
      clear q1
      have HN : Hid ((l.take (i + 1)).map (fun n => n / 2 ^ k') = (l.take i).map (fun n => n / 2 ^ k') ++ [(fun n => n / 2 ^ k') (l.getD i 0)]) := map_next _ l i hlt
      have hx5 : ((l.take i).map (fun n => n / 2 ^ k')).length ≤ 17592186044415 := by rw [List.length_map, List.length_take]; omega
      have hxr := HL.out.rng i
      generalize (l.take i).map (fun n => n / 2 ^ k') = xs at *
      generalize l.getD i 0 = x at *
      have HO : Hid (Out w (.slice oa xs.length oc) xs wr) := hout
      clear hout
      go_wp2_with (at_builtin; refine wpList_append_lies _ rfl (.tmp 26) (.tmp 34) 22 rfl w.heap.size 3 i3 (.int .i64 0) 1 8 undI3 h3a h3b h3c h3d rfl (by decide) (.slice oa xs.length oc) xs.length (intsC xs) rfl (HO.out.alloc _).own ⟨wr.heap.size, 0, none⟩ 1 1 [.int .i64 (x / 2 ^ k')] rfl rfl (World.news_of_block (cs := #[.int .i64 (x / 2 ^ k')]) (t := 3) (fr := (0, 0)) (tmp_new wr _)) (one_int _ _) (by decide) (by unfold maxLen; omega) (by omega) (HO.out.alloc _).below.size _ rfl ?_; intro gA cA wA ownA groA hatA hltA)
      have HPA : Hid (Out w (.slice (some ⟨gA, 0, none⟩) (xs.length + 1) cA) (xs ++ [(x / 2 ^ k')]) wA) := (HO.out.alloc _).push ownA groA
      clear ownA groA hatA hltA
      go_wp2_with fail
      go_roundw
      case rel => exact ⟨i + 1, _, by omega, by go_num, rfl, by rw [HN.out]; exact HPA.out⟩
      case measure => simp [intOf]; omega
     ·have hie : i = l.length := by omega
      subst hie
      rw [List.take_of_length_le (Nat.le_refl _)] at hout
      have e : (l.take l.length).map (fun n => n / 2 ^ k') = shrL l k' := by rw [List.take_of_length_le (Nat.le_refl _)]; rfl
      rw [e]
      have hout2 : Out w (.slice oa (shrL l k').length oc) (shrL l k') wr := by
       have e2 : (l.map (fun n => n / 2 ^ k')) = shrL l k' := rfl
       rw [← e2]
       exact hout
      have HI : Hid (IntsAt wr oa (shrL l k') ∧ Fr w.heap.size oa ∧ Below w.heap.size w wr) := ⟨hout2.ints (by show (l.map _).length ≤ _; rw [List.length_map]; omega) (shrL_rng l k' HL.out.num), own_fr hout2.own, hout2.below⟩
      clear hout hout2 e
      generalize shrL l k' = R at *
      go_wp2_with fail
      go_ret2
      exact retf_some HR.out rfl HI.out.1 HI.out.2.1 HI.out.2.2
structure XE (w : World) (q : Sb) (ca : Option Addr) (cc : Nat) (pa : Option Addr) (pc : Nat) (ea : Option Addr) (ec : Nat) (y : Nat) (aj : Option Addr) (D : List Nat) (wx : World) : Prop where
 sx : SX w q ca cc pa pc ea ec wx
 xw : XwB wx y aj D
 lt : w.heap.size < y
 nb : ∀ b, blockOf aj = some b → w.heap.size < b
section
variable {w wx w' : World} {q : Sb} {ca : Option Addr} {cc : Nat} {pa : Option Addr} {pc : Nat} {ea : Option Addr} {ec : Nat} {y : Nat} {aj aj' : Option Addr} {D D' : List Nat}
theorem XE.start (h : SX w q ca cc pa pc ea ec wx) : XE w q ca cc pa pc ea ec wx.heap.size none [] (wx.alloc (.cells #[.slice none 0 0] 126)) :=
 ⟨h.next ((Below.refl _ _).alloc (Nat.le_refl _) _), XwB.new wx, lt_of_block h.box, fun b hb => by cases hb⟩
theorem XE.low (h : XE w q ca cc pa pc ea ec y aj D wx) (hb : Below wx.heap.size wx w') : XE w q ca cc pa pc ea ec y aj D w' := ⟨h.sx.next hb, h.xw.below hb, h.lt, h.nb⟩
theorem XE.put (h : XE w q ca cc pa pc ea ec y aj D wx) (hw : XwB w' y aj' D') (hS : Stays (foot y aj) wx w') (hM : Moved wx.heap.size aj aj') : XE w q ca cc pa pc ea ec y aj' D' w' := by
 have hl := lt_of_block h.sx.box
 refine ⟨⟨?_, h.sx.below.trans (foot_below hS h.sx.below.size (Nat.le_of_lt h.lt) (fun b hb => Nat.le_of_lt (h.nb b hb)))⟩, hw, h.lt, fun b hb => ?_⟩
 ·rw [hS.block _ hl (fun hf => by
   rcases hf with hf | hf
   ·have := h.lt; omega
   ·have := h.nb _ hf; omega)]
  exact h.sx.box
 ·rcases hM b hb with h1 | h1
  ·exact h.nb b h1
  ·omega
end
theorem numsB_one (e y : Int) (h1 : ¬ e = -1) (h0 : ¬ e = 0) : numsB 0 e [y] = sigB y e := by
 rw [← List.nil_append [y], numsB_snoc, numsB_nil, List.nil_append]
 unfold oneB; rw [if_neg h1, if_neg h0]
def OffW (n y : Nat) (aj : Option Addr) (ao : Option Addr) : Prop := ∀ b, blockOf ao = some b → b < n ∧ b ≠ y ∧ blockOf aj ≠ some b
theorem offw_keep {w w' : World} {y : Nat} {aj aj' : Option Addr} {ao : Option Addr} {l : List Int} (hi : IntsAt w ao l) (ho : OffW w.heap.size y aj ao) (hS : Stays (foot y aj) w w') (hM : Moved w.heap.size aj aj') : IntsAt w' ao l ∧ OffW w'.heap.size y aj' ao := by
 refine ⟨⟨hi.len, hi.num, fun h0 => ?_⟩, fun b hb => ?_⟩
 ·obtain ⟨b, off, e, hc⟩ := hi.lies h0
  refine ⟨b, off, e, fun j hj => ?_⟩
  have h1 := hc j hj
  have hb : blockOf ao = some b := by rw [e]; rfl
  obtain ⟨h2, h3, h4⟩ := ho b hb
  rw [← h1]
  refine World.cell?_of_block (w := w) (hS.block b h2 (fun hf => ?_))
  rcases hf with hf | hf
  ·exact h3 hf
  ·exact h4 hf
 ·obtain ⟨h2, h3, h4⟩ := ho b hb
  refine ⟨Nat.lt_of_lt_of_le h2 hS.size, h3, fun e => ?_⟩
  rcases hM b e with h5 | h5
  ·exact h4 h5
  ·omega
end Go.Proofs.YthgpleelpeacjaaGreatDoor
