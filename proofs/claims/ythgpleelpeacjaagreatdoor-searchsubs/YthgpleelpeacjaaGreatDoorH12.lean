/- Own text. -/
import Derived.Test.YthgpleelpeacjaaGreatDoorH11
import Derived.Handy
import Derived.Deep.WholeRow
import Derived.Laws.ResultCell
import Derived.Deep.Cut
import Derived.Laws.BytesArg
set_option linter.unusedSimpArgs false
set_option linter.unusedVariables false
set_option maxRecDepth 20000
set_option maxHeartbeats 12800000
namespace Go.Proofs.YthgpleelpeacjaaGreatDoor
open Go.RowKit
theorem xwasted_spec (l : List Int) (la : Option Addr) (lc : Nat) (w : World) (hl : IntsAt w la l) : Calls Tryz.prog 30 #[.slice la l.length lc] w fun e w' => e = .returned (.int .i64 (wasN l : Int)) ∧ w' = w := by
 have h1 := hl.len
 have HL : Hid (IntsAt w la l) := hl
 have KD : Hid (∀ k : Nat, k ≤ 31 → Calls Tryz.prog 77 #[.slice la l.length lc, .int .i64 (k : Int)] w fun e w' => e = .returned (.bool (dvB l k)) ∧ w' = w) := fun k hk => xdiv_spec l k hk la lc w hl
 clear hl
 go_enter Tryz.func30, Tryz.ntmps30
 go_wp2_with fail
 go_loopw [3, 4] (fun s t wr => ∃ i : Nat, i ≤ l.length ∧ t = .int .i64 (i : Int) ∧ s = .bool (!zerB (l.take i)) ∧ wr = w) (fun _ t _ => l.length - (intOf t).toNat)
 case atStart => exact ⟨0, Nat.zero_le _, rfl, rfl, rfl⟩
 case round =>
  obtain ⟨i, hi, rfl, rfl, rfl⟩ := hrel
  by_cases hlt : i < l.length
  ·obtain ⟨b1, o1, rfl, q1⟩ := HL.out.at i hlt
   have r1 := q1 wr (Below.refl _ _)
   clear q1
   have HN : Hid (zerB (l.take (i + 1)) = (zerB (l.take i) && (l.getD i 0 == 0))) := by
    show _ = _
    rw [← take_next l i hlt]
    unfold zerB
    rw [List.all_append]
    simp
   generalize l.getD i 0 = x at *
   generalize zerB (l.take i) = zb at *
   cases zb with
   | false =>
    go_wp2_with fail
    go_roundw
    case rel => exact ⟨i + 1, by omega, by go_num, by rw [HN.out]; rfl, by trivial⟩
    case measure => simp [intOf]; omega
   | true =>
    by_cases h0 : x = 0
    ·have hbn : (x != 0) = false := by rw [bne_eq_false_iff_eq]; exact h0
     have HN2 : Hid (zerB (l.take (i + 1)) = true) := by show _ = _; rw [HN.out, h0]; rfl
     go_wp2_with fail
     go_roundw
     case rel => exact ⟨i + 1, by omega, by go_num, by rw [HN2.out]; rfl, by trivial⟩
     case measure => simp [intOf]; omega
    ·have hbn : (x != 0) = true := by rw [bne_iff_ne]; exact h0
     have HN2 : Hid (zerB (l.take (i + 1)) = false) := by
      show _ = _
      rw [HN.out, show (x == 0) = false from by rw [beq_eq_false_iff_ne]; exact h0]; rfl
     go_wp2_with fail
     go_roundw
     case rel => exact ⟨i + 1, by omega, by go_num, by rw [HN2.out]; rfl, by trivial⟩
     case measure => simp [intOf]; omega
  ·have hie : i = l.length := by omega
   subst hie
   obtain ⟨w9, hw9⟩ : ∃ w9, w9 = wr := ⟨_, rfl⟩
   subst hw9
   have hta : l.take l.length = l := List.take_of_length_le (Nat.le_refl _)
   rw [hta]
   cases hz : zerB l with
   | true =>
    have HW0 : Hid (wasN l = 0) := by show _ = _; unfold wasN; rw [if_pos hz]
    clear hz hta
    simp only [Bool.not_false, Bool.not_true]
    go_wp2_with fail
    go_loopw [5] (fun t wy => t = .int .i64 0 ∧ wy = w9) (fun _ _ => 0)
    case atStart => exact ⟨rfl, rfl⟩
    case round =>
     obtain ⟨rfl, rfl⟩ := hrel
     go_wp2_with fail
     go_ret
     exact ⟨by rw [HW0.out]; rfl, rfl⟩
   | false =>
    have HWK : Hid (wasN l = wasK l 31) := by show _ = _; unfold wasN; rw [if_neg (by rw [hz]; decide)]
    clear hz hta
    simp only [Bool.not_false, Bool.not_true]
    go_wp2_with fail
    go_loopw [5] (fun t wy => ∃ n : Nat, n ≤ 31 ∧ t = .int .i64 (n : Int) ∧ dvB l n = true ∧ wy = w9) (fun t _ => 31 - (intOf t).toNat)
    case atStart => exact ⟨0, by omega, rfl, dvB_zero l, by trivial⟩
    case round =>
     obtain ⟨n, hn, rfl, hdv, hwe⟩ := hrel
     have HDV : Hid (dvB l n = true) := hdv
     clear hdv
     subst hwe
     by_cases hn31 : n < 31
     ·have kd := KD.out (n + 1) (by omega)
      have hcast : ((n + 1 : Nat) : Int) = (n : Int) + 1 := by omega
      rw [hcast] at kd
      cases hq : dvB l (n + 1) with
      | true =>
       have HQ : Hid (dvB l (n + 1) = true) := hq
       rw [hq] at kd
       clear hq hcast
       go_wp2_with fail
       refine kd.mono ?_
       rintro e w2 ⟨rfl, rfl⟩
       go_wp2_with fail
       go_roundw
       case rel => exact ⟨n + 1, by omega, by go_num, HQ.out, by trivial⟩
       case measure => simp [intOf]; omega
      | false =>
       have HW0 : Hid (wasN l = n) := by show _ = _; rw [HWK.out]; exact wasK_is l n 31 hn HDV.out (Or.inr hq)
       rw [hq] at kd
       clear hq hcast
       go_wp2_with fail
       refine kd.mono ?_
       rintro e w2 ⟨rfl, rfl⟩
       go_wp2_with fail
       go_ret
       exact ⟨by rw [HW0.out]; rfl, by trivial⟩
     ·have hne : n = 31 := by omega
      subst hne
      have HW0 : Hid (wasN l = 31) := by show _ = _; rw [HWK.out]; exact wasK_is l 31 31 hn HDV.out (Or.inl rfl)
      go_wp2_with fail
      go_ret
      exact ⟨by rw [HW0.out]; rfl, by trivial⟩
def shfR (l : List Int) (k : Int) : Option (List Int) := if (0 ≤ k ∧ k ≤ 31) ∧ dvB l k.toNat = true then some (shrL l k.toNat) else none
theorem map_next (f : Int → Int) (l : List Int) (i : Nat) (h : i < l.length) : (l.take (i + 1)).map f = (l.take i).map f ++ [f (l.getD i 0)] := by
 rw [← take_next l i h, List.map_append]; rfl
theorem shrL_rng (l : List Int) (k : Nat) (h : Rng l) : Rng (shrL l k) := by
 intro x hx
 obtain ⟨n, hn, rfl⟩ := List.mem_map.1 hx
 exact shr_rng n k (h n hn)
theorem xshift_spec (l : List Int) (k : Int) (la : Option Addr) (lc : Nat) (w : World) (hl : IntsAt w la l) : Calls Tryz.prog 31 #[.slice la l.length lc, .int .i64 k] w (Ret2 (shfR l k) w) := by
 obtain ⟨i3, h3a, h3b, h3c, h3d⟩ := int_info
 have hln := hl.len
 by_cases h1 : k < 0
 ·have HR : Hid (shfR l k = none) := by show _ = _; unfold shfR; rw [if_neg (fun h => by omega)]
  go_enter Tryz.func31, Tryz.ntmps31
  go_wp2_with fail
  go_ret2
  exact ret_none HR.out rfl (Below.refl _ _)
 ·skip
  by_cases h2 : 31 < k
  ·have HR : Hid (shfR l k = none) := by show _ = _; unfold shfR; rw [if_neg (fun h => by omega)]
   go_enter Tryz.func31, Tryz.ntmps31
   go_wp2_with fail
   go_ret2
   exact ret_none HR.out rfl (Below.refl _ _)
  ·skip
   obtain ⟨k', rfl⟩ : ∃ k' : Nat, k = (k' : Int) := ⟨k.toNat, by omega⟩
   have hk31 : k' ≤ 31 := by omega
   have kd := xdiv_spec l k' hk31 la lc w hl
   have HL : Hid (IntsAt w la l) := hl
   clear hl
   cases hd : dvB l k' with
   | false =>
    have HR : Hid (shfR l (k' : Int) = none) := by show _ = _; unfold shfR; rw [if_neg (fun h => by have h2 := h.2; rw [Int.toNat_natCast, hd] at h2; cases h2)]
    rw [hd] at kd
    clear hd
    go_enter Tryz.func31, Tryz.ntmps31
    go_wp2_with fail
    refine kd.mono ?_
    rintro e w2 ⟨rfl, rfl⟩
    go_wp2_with fail
    go_ret2
    exact ret_none HR.out rfl (Below.refl _ _)
   | true =>
    have HR : Hid (shfR l (k' : Int) = some (shrL l k')) := by show _ = _; unfold shfR; rw [if_pos ⟨by omega, by rw [Int.toNat_natCast]; exact hd⟩]; rfl
    rw [hd] at kd
    clear hd
    go_enter Tryz.func31, Tryz.ntmps31
    go_wp2_with fail
    refine kd.mono ?_
    rintro e w2 ⟨rfl, hw2⟩
    subst hw2
    clear kd
    obtain ⟨w, hww⟩ : ∃ w, w = w2 := ⟨_, rfl⟩
    subst hww
    go_wp2_with fail
    go_loopw [6, 7] (fun s t wr => ∃ (i : Nat) (v : Value), i ≤ l.length ∧ t = .int .i64 (i : Int) ∧ s = v ∧ Out w v ((l.take i).map (fun n => n / 2 ^ k')) wr) (fun _ t _ => l.length - (intOf t).toNat)
    case atStart => exact ⟨0, _, Nat.zero_le _, rfl, rfl, Out.nil w⟩
    case round =>
     obtain ⟨i, v, hi, rfl, rfl, hout⟩ := hrel
     obtain ⟨oa, oc, rfl⟩ := hout.shape
     by_cases hlt : i < l.length
     ·obtain ⟨b1, o1, rfl, q1⟩ := HL.out.at i hlt
      have r1 := q1 wr hout.below
      clear q1
      have HN : Hid ((l.take (i + 1)).map (fun n => n / 2 ^ k') = (l.take i).map (fun n => n / 2 ^ k') ++ [(fun n => n / 2 ^ k') (l.getD i 0)]) := map_next _ l i hlt
      have hx5 : ((l.take i).map (fun n => n / 2 ^ k')).length ≤ 17592186044415 := by rw [List.length_map, List.length_take]; omega
      have hxr := HL.out.rng i
      generalize (l.take i).map (fun n => n / 2 ^ k') = xs at *
      generalize l.getD i 0 = x at *
      have HO : Hid (Out w (.slice oa xs.length oc) xs wr) := hout
      clear hout
      go_wp2_with (at_builtin; refine wpList_append_lies _ rfl (.tmp 26) (.tmp 34) 22 rfl w.heap.size 3 i3 (.int .i64 0) 1 8 undI3 h3a h3b h3c h3d rfl (by decide) (.slice oa xs.length oc) xs.length (intsC xs) rfl (HO.out.alloc _).own ⟨wr.heap.size, 0, none⟩ 1 1 [.int .i64 (x / 2 ^ k')] rfl rfl (World.news_of_block (cs := #[.int .i64 (x / 2 ^ k')]) (t := 3) (fr := (0, 0)) (tmp_new wr _)) (one_int _ _) (by decide) (by unfold maxLen; omega) (by omega) (HO.out.alloc _).below.size _ rfl ?_; intro gA cA wA ownA groA hatA hltA)
      have HPA : Hid (Out w (.slice (some ⟨gA, 0, none⟩) (xs.length + 1) cA) (xs ++ [(x / 2 ^ k')]) wA) := (HO.out.alloc _).push ownA groA
      clear ownA groA hatA hltA
      go_wp2_with fail
      go_roundw
      case rel => exact ⟨i + 1, _, by omega, by go_num, rfl, by rw [HN.out]; exact HPA.out⟩
      case measure => simp [intOf]; omega
     ·have hie : i = l.length := by omega
      subst hie
      rw [List.take_of_length_le (Nat.le_refl _)] at hout
      have e : (l.take l.length).map (fun n => n / 2 ^ k') = shrL l k' := by rw [List.take_of_length_le (Nat.le_refl _)]; rfl
      rw [e]
      have hout2 : Out w (.slice oa (shrL l k').length oc) (shrL l k') wr := by
       have e2 : (l.map (fun n => n / 2 ^ k')) = shrL l k' := rfl
       rw [← e2]
       exact hout
      have HI : Hid (IntsAt wr oa (shrL l k') ∧ Below w.heap.size w wr) := ⟨hout2.ints (by show (l.map _).length ≤ _; rw [List.length_map]; omega) (shrL_rng l k' HL.out.num), hout2.below⟩
      clear hout hout2 e
      generalize shrL l k' = R at *
      go_wp2_with fail
      go_ret2
      exact ret_some HR.out rfl HI.out.1 HI.out.2
def hm (k : Nat) : Nat := if k = 1 then 0 else 256 - 2 ^ (8 - k)
def hc (b : Nat) : Nat :=
 if b < 128 then 1 else if b < 192 then 0 else if b < 224 then 2 else if b < 240 then 3 else if b < 248 then 4 else if b < 252 then 5 else if b < 254 then 6 else if b < 255 then 7 else 0
structure Fm where
 v : Bool
 num : Int
 size : Int
 sc : Int
 rc : Int
 wc : Int
 mo : Int
 S : List Sb
structure Inf where
 rate : Int
 ch : Int
 wd : Int
abbrev Sb0 : Sb := ⟨0, 0, 0, 0, 0, [], ⟨0, 0, [], []⟩⟩
def sizN (c : Int) : Int := if c = 1 then 192 else if 2 ≤ c ∧ c ≤ 5 then 576 * 2 ^ (c - 2).toNat else if 8 ≤ c ∧ c ≤ 15 then 256 * 2 ^ (c - 8).toNat else 0
def ratN (c : Int) : Int := [0, 88200, 176400, 192000, 8000, 16000, 22050, 24000, 32000, 44100, 48000, 96000].getD c.toNat 0
def widN (c : Int) : Int := [0, 8, 12, 0, 16, 20, 24, 0].getD c.toNat 0
def wdA (i : Inf) (mo : Int) (c : Nat) : Int := if (c = 1 ∧ (mo = 1 ∨ mo = 3)) ∨ (c = 0 ∧ mo = 2) then i.wd + 1 else i.wd
abbrev mayF (i : Inf) : Prop := (1 ≤ i.ch ∧ i.ch ≤ 8) ∧ (4 ≤ i.wd ∧ i.wd ≤ 24) ∧ 1 ≤ i.rate
abbrev saysZ (f : Fm) : Prop := (1 ≤ f.sc ∧ f.sc ≤ 15) ∧ (sizN f.sc = f.size ∨ (f.sc = 6 ∧ f.size ≤ 256) ∨ f.sc = 7)
abbrev saysR (f : Fm) (i : Inf) : Prop := f.rc = 0 ∨ ((1 ≤ f.rc ∧ f.rc ≤ 11) ∧ ratN f.rc = i.rate) ∨ (f.rc = 12 ∧ i.rate % 1000 = 0 ∧ i.rate ≤ 255000) ∨ (f.rc = 13 ∧ i.rate ≤ 65535) ∨ (f.rc = 14 ∧ i.rate % 10 = 0 ∧ i.rate ≤ 655350)
abbrev saysW (f : Fm) (i : Inf) : Prop := f.wc = 0 ∨ ((1 ≤ f.wc ∧ f.wc ≤ 6) ∧ ¬ f.wc = 3 ∧ widN f.wc = i.wd)
abbrev okH (f : Fm) (i : Inf) : Prop := mayF i ∧ (1 ≤ f.size ∧ f.size ≤ 4608) ∧ (0 ≤ f.num ∧ f.num ≤ (if f.v then 68719476735 else 2147483647)) ∧ (0 ≤ f.mo ∧ f.mo ≤ 3 ∧ (f.mo = 0 ∨ i.ch = 2)) ∧ saysZ f ∧ saysR f i ∧ saysW f i
abbrev okC (f : Fm) (i : Inf) : Prop := okH f i ∧ (f.S.length : Int) = i.ch ∧ ∀ c, c < f.S.length → subOk (f.S.getD c Sb0) f.size (wdA i f.mo c)
end Go.Proofs.YthgpleelpeacjaaGreatDoor
namespace Go.Proofs.YthgpleelpeacjaaGreatDoor
open Go.RowKit
namespace S3
def rulesA : Array Value := #[.int .i64 8, .int .i64 8, .int .u32 7, .bool false, .int .u32 0, .int .i64 16, .int .i64 16, .int .u32 32773, .bool false, .int .u32 0,
 .int .i64 32, .int .i64 32, .int .u32 79764919, .bool false, .int .u32 0, .int .i64 33, .int .i64 32, .int .u32 3988292384, .bool true, .int .u32 4294967295]
def RulesAt (w : World) : Prop := ∃ t fz, w.heap[5]? = some (.cells rulesA t fz)
theorem RulesAt.size {w : World} (h : RulesAt w) : 5 < w.heap.size := by
 obtain ⟨t, fz, h⟩ := h
 exact lt_of_block h
end S3
end Go.Proofs.YthgpleelpeacjaaGreatDoor
namespace Go.Proofs.YthgpleelpeacjaaGreatDoor
open Go.RowKit
structure HDS (w : World) (x : Nat) (s : ByteArray) (a : Nat) (wx : World) : Prop where
 zb : wx.heap[w.heap.size]? = some (.cells (subC ⟨0, 0, 0, 0, 0, [], R0⟩ none 0 none 0 none 0) 27 (0, 0))
 rd : Rd wx x s a
 st : Stays (only x) w wx
 hx : x < w.heap.size
def IntTab (b : Nat) (T : List Int) (w : World) : Prop := ∀ j, j < T.length → w.cell? ⟨b, j, none⟩ = some (.int .i64 (T.getD j 0))
theorem IntTab.below {b : Nat} {T : List Int} {w w' : World} (h : IntTab b T w) (hb : Below w.heap.size w w') : IntTab b T w' := fun j hj => by
 have h1 := h j hj
 rw [← h1]; exact World.cell?_of_block (w := w) (hb.block _ (lt_cell h1))
abbrev sizT : List Int := [0, 192, 576, 1152, 2304, 4608, 0, 0, 256, 512, 1024, 2048, 4096, 8192, 16384, 32768]
abbrev ratT : List Int := [0, 88200, 176400, 192000, 8000, 16000, 22050, 24000, 32000, 44100, 48000, 96000, 0, 0, 0, 0]
abbrev widT : List Int := [0, 8, 12, 0, 16, 20, 24, 0]
structure Lay (w : World) : Prop where
 z : IntTab 0 sizT w
 r : IntTab 1 ratT w
 d : IntTab 2 widT w
 u : True
theorem Lay.below {w w' : World} (h : Lay w) (hb : Below w.heap.size w w') : Lay w' := ⟨h.z.below hb, h.r.below hb, h.d.below hb, trivial⟩
def szb (c : Int) : Int := if c = 6 then 1 else if c = 7 then 2 else 0
def rtb (c : Int) : Int := if c = 12 then 1 else if c = 13 then 2 else if c = 14 then 2 else 0
def rtu (c : Int) : Int := if c = 12 then 1000 else if c = 14 then 10 else 1
theorem szb_all (c : Int) : (c = 6 ∧ szb c = 1) ∨ (c = 7 ∧ szb c = 2) ∨ (¬ c = 6 ∧ ¬ c = 7 ∧ szb c = 0) := by
 unfold szb
 by_cases a : c = 6
 ·exact .inl ⟨a, if_pos a⟩
 ·by_cases b : c = 7
  ·exact .inr (.inl ⟨b, by rw [if_neg a, if_pos b]⟩)
  ·exact .inr (.inr ⟨a, b, by rw [if_neg a, if_neg b]⟩)
theorem rtb_all (c : Int) : (c = 12 ∧ rtb c = 1 ∧ rtu c = 1000) ∨ (c = 13 ∧ rtb c = 2 ∧ rtu c = 1) ∨ (c = 14 ∧ rtb c = 2 ∧ rtu c = 10) ∨ (¬ c = 12 ∧ ¬ c = 13 ∧ ¬ c = 14 ∧ rtb c = 0 ∧ rtu c = 1) := by
 unfold rtb rtu
 by_cases a : c = 12
 ·exact .inl ⟨a, if_pos a, if_pos a⟩
 ·by_cases b : c = 13
  ·exact .inr (.inl ⟨b, by rw [if_neg a, if_pos b], by rw [if_neg a, if_neg (by omega)]⟩)
  ·by_cases d : c = 14
   ·exact .inr (.inr (.inl ⟨d, by rw [if_neg a, if_neg b, if_pos d], by rw [if_neg a, if_pos d]⟩))
   ·exact .inr (.inr (.inr ⟨a, b, d, by rw [if_neg a, if_neg b, if_neg d], by rw [if_neg a, if_neg d]⟩))
theorem f_szb (c : Int) (w : World) : Calls Tryz.prog 101 #[.int .i64 c] w fun e w' => e = .returned (.int .i64 (szb c)) ∧ w' = w := by
 by_cases g6 : c = 6
 ·have HV : Hid (szb c = 1) := by show _ = _; unfold szb; omega
  rw [HV.out]
  have hk6 : (c == 6) = true := by rw [beq_iff_eq]; omega
  have hk7 : (c == 7) = false := by rw [beq_eq_false_iff_ne]; omega
  clear HV
  go_enter Tryz.func101, Tryz.ntmps101
  go_wp2_with fail
  go_ret
  exact ⟨rfl, rfl⟩
 ·skip
  by_cases g7 : c = 7
  ·have HV : Hid (szb c = 2) := by show _ = _; unfold szb; omega
   rw [HV.out]
   have hk6 : (c == 6) = false := by rw [beq_eq_false_iff_ne]; omega
   have hk7 : (c == 7) = true := by rw [beq_iff_eq]; omega
   clear HV
   go_enter Tryz.func101, Tryz.ntmps101
   go_wp2_with fail
   go_ret
   exact ⟨rfl, rfl⟩
  ·skip
   have HV : Hid (szb c = 0) := by show _ = _; unfold szb; omega
   rw [HV.out]
   have hk6 : (c == 6) = false := by rw [beq_eq_false_iff_ne]; omega
   have hk7 : (c == 7) = false := by rw [beq_eq_false_iff_ne]; omega
   clear HV
   go_enter Tryz.func101, Tryz.ntmps101
   go_wp2_with fail
   go_ret
   exact ⟨rfl, rfl⟩
theorem f_rtb (c : Int) (w : World) : Calls Tryz.prog 102 #[.int .i64 c] w fun e w' => e = .returned (.int .i64 (rtb c)) ∧ w' = w := by
 by_cases g12 : c = 12
 ·have HV : Hid (rtb c = 1) := by show _ = _; unfold rtb; omega
  rw [HV.out]
  have hk12 : (c == 12) = true := by rw [beq_iff_eq]; omega
  have hk13 : (c == 13) = false := by rw [beq_eq_false_iff_ne]; omega
  have hk14 : (c == 14) = false := by rw [beq_eq_false_iff_ne]; omega
  clear HV
  go_enter Tryz.func102, Tryz.ntmps102
  go_wp2_with fail
  go_ret
  exact ⟨rfl, rfl⟩
 ·skip
  by_cases g13 : c = 13
  ·have HV : Hid (rtb c = 2) := by show _ = _; unfold rtb; omega
   rw [HV.out]
   have hk12 : (c == 12) = false := by rw [beq_eq_false_iff_ne]; omega
   have hk13 : (c == 13) = true := by rw [beq_iff_eq]; omega
   have hk14 : (c == 14) = false := by rw [beq_eq_false_iff_ne]; omega
   clear HV
   go_enter Tryz.func102, Tryz.ntmps102
   go_wp2_with fail
   go_ret
   exact ⟨rfl, rfl⟩
  ·skip
   by_cases g14 : c = 14
   ·have HV : Hid (rtb c = 2) := by show _ = _; unfold rtb; omega
    rw [HV.out]
    have hk12 : (c == 12) = false := by rw [beq_eq_false_iff_ne]; omega
    have hk13 : (c == 13) = false := by rw [beq_eq_false_iff_ne]; omega
    have hk14 : (c == 14) = true := by rw [beq_iff_eq]; omega
    clear HV
    go_enter Tryz.func102, Tryz.ntmps102
    go_wp2_with fail
    go_ret
    exact ⟨rfl, rfl⟩
   ·skip
    have HV : Hid (rtb c = 0) := by show _ = _; unfold rtb; omega
    rw [HV.out]
    have hk12 : (c == 12) = false := by rw [beq_eq_false_iff_ne]; omega
    have hk13 : (c == 13) = false := by rw [beq_eq_false_iff_ne]; omega
    have hk14 : (c == 14) = false := by rw [beq_eq_false_iff_ne]; omega
    clear HV
    go_enter Tryz.func102, Tryz.ntmps102
    go_wp2_with fail
    go_ret
    exact ⟨rfl, rfl⟩
theorem f_rtu (c : Int) (w : World) : Calls Tryz.prog 103 #[.int .i64 c] w fun e w' => e = .returned (.int .i64 (rtu c)) ∧ w' = w := by
 by_cases g12 : c = 12
 ·have HV : Hid (rtu c = 1000) := by show _ = _; unfold rtu; omega
  rw [HV.out]
  have hk12 : (c == 12) = true := by rw [beq_iff_eq]; omega
  have hk14 : (c == 14) = false := by rw [beq_eq_false_iff_ne]; omega
  clear HV
  go_enter Tryz.func103, Tryz.ntmps103
  go_wp2_with fail
  go_ret
  exact ⟨rfl, rfl⟩
 ·skip
  by_cases g14 : c = 14
  ·have HV : Hid (rtu c = 10) := by show _ = _; unfold rtu; omega
   rw [HV.out]
   have hk12 : (c == 12) = false := by rw [beq_eq_false_iff_ne]; omega
   have hk14 : (c == 14) = true := by rw [beq_iff_eq]; omega
   clear HV
   go_enter Tryz.func103, Tryz.ntmps103
   go_wp2_with fail
   go_ret
   exact ⟨rfl, rfl⟩
  ·skip
   have HV : Hid (rtu c = 1) := by show _ = _; unfold rtu; omega
   rw [HV.out]
   have hk12 : (c == 12) = false := by rw [beq_eq_false_iff_ne]; omega
   have hk14 : (c == 14) = false := by rw [beq_eq_false_iff_ne]; omega
   clear HV
   go_enter Tryz.func103, Tryz.ntmps103
   go_wp2_with fail
   go_ret
   exact ⟨rfl, rfl⟩
def sizS (c b : Int) : Int := if c = 6 ∨ c = 7 then b + 1 else sizT.getD c.toNat 0
def ratS (c b st : Int) : Int := if c = 0 then st else if c = 12 ∨ c = 13 ∨ c = 14 then b * rtu c else ratT.getD c.toNat 0
def widS (c st : Int) : Int := if c = 0 then st else widT.getD c.toNat 0
theorem tab_rng (T : List Int) (h : ∀ x ∈ T, -9223372036854775808 ≤ x ∧ x ≤ 9223372036854775807) (j : Nat) : -9223372036854775808 ≤ T.getD j 0 ∧ T.getD j 0 ≤ 9223372036854775807 := by
 rw [List.getD_eq_getElem?_getD]
 by_cases hj : j < T.length
 ·rw [List.getElem?_eq_getElem hj]; exact h _ (List.getElem_mem hj)
 ·rw [List.getElem?_eq_none (by omega)]; exact ⟨by decide, by decide⟩
theorem sizT_rng (j : Nat) : -9223372036854775808 ≤ sizT.getD j 0 ∧ sizT.getD j 0 ≤ 9223372036854775807 := tab_rng _ (by decide) j
theorem ratT_rng (j : Nat) : -9223372036854775808 ≤ ratT.getD j 0 ∧ ratT.getD j 0 ≤ 9223372036854775807 := tab_rng _ (by decide) j
theorem widT_rng (j : Nat) : -9223372036854775808 ≤ widT.getD j 0 ∧ widT.getD j 0 ≤ 9223372036854775807 := tab_rng _ (by decide) j
theorem f_sizS (c b : Int) (hc : 0 ≤ c ∧ c < 16) (hb : 0 ≤ b ∧ b ≤ 70000) (w : World) (hL : Lay w) : Calls Tryz.prog 114 #[.int .i64 c, .int .i64 b] w fun e w' => e = .returned (.int .i64 (sizS c b)) ∧ w' = w := by
 have kz := f_szb c
 rcases szb_all c with ⟨g, hz⟩ | ⟨g, hz⟩ | ⟨g6, g7, hz⟩
 ·have HV : Hid (sizS c b = b + 1) := by show _ = _; unfold sizS; rw [if_pos (by omega)]
  rw [HV.out]
  rw [hz] at kz
  clear HV hL hz g
  go_enter Tryz.func114, Tryz.ntmps114
  go_wp2_with fail
  refine (kz _).mono ?_
  rintro e wc ⟨rfl, hwc⟩
  subst hwc
  go_wp2_with fail
  go_ret
  exact ⟨by first | rfl | go_num | simp, rfl⟩
 ·have HV : Hid (sizS c b = b + 1) := by show _ = _; unfold sizS; rw [if_pos (by omega)]
  rw [HV.out]
  rw [hz] at kz
  clear HV hL hz g
  go_enter Tryz.func114, Tryz.ntmps114
  go_wp2_with fail
  refine (kz _).mono ?_
  rintro e wc ⟨rfl, hwc⟩
  subst hwc
  go_wp2_with fail
  go_ret
  exact ⟨by first | rfl | go_num | simp, rfl⟩
 ·have HV : Hid (sizS c b = sizT.getD c.toNat 0) := by show _ = _; unfold sizS; rw [if_neg (by omega)]
  rw [HV.out]
  rw [hz] at kz
  clear HV hz
  obtain ⟨j, rfl⟩ : ∃ j : Nat, c = j := ⟨c.toNat, by omega⟩
  rw [Int.toNat_natCast]
  have hcell := hL.z j (by show j < 16; omega)
  have hrg : -9223372036854775808 ≤ sizT.getD j 0 ∧ sizT.getD j 0 ≤ 9223372036854775807 := sizT_rng j
  generalize sizT.getD j 0 = v at *
  clear hL
  go_enter Tryz.func114, Tryz.ntmps114
  go_wp2_with fail
  refine (kz _).mono ?_
  rintro e wc ⟨rfl, hwc⟩
  subst hwc
  go_wp2_with fail
  go_ret
  exact ⟨rfl, rfl⟩
theorem f_ratS (c b st : Int) (hc : 0 ≤ c ∧ c < 16) (hb : 0 ≤ b ∧ b ≤ 9223372036854775807) (hm : b * rtu c ≤ 9223372036854775807) (w : World) (hL : Lay w) : Calls Tryz.prog 115 #[.int .i64 c, .int .i64 b, .int .i64 st] w fun e w' => e = .returned (.int .i64 (ratS c b st)) ∧ w' = w := by
 have kz := f_rtb c
 have ku := f_rtu c
 by_cases g0 : c = 0
 ·have HV : Hid (ratS c b st = st) := by show _ = _; unfold ratS; rw [if_pos g0]
  rw [HV.out]
  have hk0 : (c == 0) = true := by rw [beq_iff_eq]; exact g0
  clear HV hL kz ku g0
  go_enter Tryz.func115, Tryz.ntmps115
  go_wp2_with fail
  go_ret
  exact ⟨rfl, rfl⟩
 ·rcases rtb_all c with ⟨g, hz, hu⟩ | ⟨g, hz, hu⟩ | ⟨g, hz, hu⟩ | ⟨g1, g2, g3, hz, hu⟩
  ·have HV : Hid (ratS c b st = b * rtu c) := by show _ = _; unfold ratS; rw [if_neg g0, if_pos (by omega)]
   rw [HV.out]
   have hk0 : (c == 0) = false := by rw [beq_eq_false_iff_ne]; exact g0
   rw [hz] at kz
   rw [hu] at ku hm ⊢
   clear HV hL hz hu g0 g
   go_enter Tryz.func115, Tryz.ntmps115
   go_wp2_with fail
   refine (kz _).mono ?_
   rintro e wc ⟨rfl, hwc⟩
   subst hwc
   go_wp2_with fail
   refine (ku _).mono ?_
   rintro e wc ⟨rfl, hwc⟩
   subst hwc
   go_wp2_with fail
   go_ret
   exact ⟨by first | rfl | go_num | simp, rfl⟩
  ·have HV : Hid (ratS c b st = b * rtu c) := by show _ = _; unfold ratS; rw [if_neg g0, if_pos (by omega)]
   rw [HV.out]
   have hk0 : (c == 0) = false := by rw [beq_eq_false_iff_ne]; exact g0
   rw [hz] at kz
   rw [hu] at ku hm ⊢
   clear HV hL hz hu g0 g
   go_enter Tryz.func115, Tryz.ntmps115
   go_wp2_with fail
   refine (kz _).mono ?_
   rintro e wc ⟨rfl, hwc⟩
   subst hwc
   go_wp2_with fail
   refine (ku _).mono ?_
   rintro e wc ⟨rfl, hwc⟩
   subst hwc
   go_wp2_with fail
   go_ret
   exact ⟨by first | rfl | go_num | simp, rfl⟩
  ·have HV : Hid (ratS c b st = b * rtu c) := by show _ = _; unfold ratS; rw [if_neg g0, if_pos (by omega)]
   rw [HV.out]
   have hk0 : (c == 0) = false := by rw [beq_eq_false_iff_ne]; exact g0
   rw [hz] at kz
   rw [hu] at ku hm ⊢
   clear HV hL hz hu g0 g
   go_enter Tryz.func115, Tryz.ntmps115
   go_wp2_with fail
   refine (kz _).mono ?_
   rintro e wc ⟨rfl, hwc⟩
   subst hwc
   go_wp2_with fail
   refine (ku _).mono ?_
   rintro e wc ⟨rfl, hwc⟩
   subst hwc
   go_wp2_with fail
   go_ret
   exact ⟨by first | rfl | go_num | simp, rfl⟩
  ·have HV : Hid (ratS c b st = ratT.getD c.toNat 0) := by show _ = _; unfold ratS; rw [if_neg g0, if_neg (by omega)]
   rw [HV.out]
   have hk0 : (c == 0) = false := by rw [beq_eq_false_iff_ne]; exact g0
   rw [hz] at kz
   clear HV hz hu ku g0 hm
   obtain ⟨j, rfl⟩ : ∃ j : Nat, c = j := ⟨c.toNat, by omega⟩
   rw [Int.toNat_natCast]
   have hcell := hL.r j (by show j < 16; omega)
   have hrg : -9223372036854775808 ≤ ratT.getD j 0 ∧ ratT.getD j 0 ≤ 9223372036854775807 := ratT_rng j
   generalize ratT.getD j 0 = v at *
   clear hL
   go_enter Tryz.func115, Tryz.ntmps115
   go_wp2_with fail
   refine (kz _).mono ?_
   rintro e wc ⟨rfl, hwc⟩
   subst hwc
   go_wp2_with fail
   go_ret
   exact ⟨rfl, rfl⟩
theorem f_widS (c st : Int) (hc : 0 ≤ c ∧ c < 8) (w : World) (hL : Lay w) : Calls Tryz.prog 116 #[.int .i64 c, .int .i64 st] w fun e w' => e = .returned (.int .i64 (widS c st)) ∧ w' = w := by
 by_cases g0 : c = 0
 ·have HV : Hid (widS c st = st) := by show _ = _; unfold widS; rw [if_pos g0]
  rw [HV.out]
  have hk0 : (c == 0) = true := by rw [beq_iff_eq]; exact g0
  clear HV hL g0
  go_enter Tryz.func116, Tryz.ntmps116
  go_wp2_with fail
  go_ret
  exact ⟨rfl, rfl⟩
 ·have HV : Hid (widS c st = widT.getD c.toNat 0) := by show _ = _; unfold widS; rw [if_neg g0]
  rw [HV.out]
  have hk0 : (c == 0) = false := by rw [beq_eq_false_iff_ne]; exact g0
  clear HV g0
  obtain ⟨j, rfl⟩ : ∃ j : Nat, c = j := ⟨c.toNat, by omega⟩
  rw [Int.toNat_natCast]
  have hcell := hL.d j (by show j < 8; omega)
  have hrg : -9223372036854775808 ≤ widT.getD j 0 ∧ widT.getD j 0 ≤ 9223372036854775807 := widT_rng j
  generalize widT.getD j 0 = v at *
  clear hL
  go_enter Tryz.func116, Tryz.ntmps116
  go_wp2_with fail
  go_ret
  exact ⟨rfl, rfl⟩
theorem f_isIn (c n : Int) (bb : Bool) (hbb : bb = true ↔ 0 ≤ c ∧ c < n) (w : World) : Calls Tryz.prog 168 #[.int .i64 c, .int .i64 n] w fun e w' => e = .returned (.bool bb) ∧ w' = w := by
 by_cases g0 : c < 0
 ·rw [bb_no hbb (by omega)]
  clear hbb
  go_enter Tryz.func168, Tryz.ntmps168
  go_wp2_with fail
  go_ret
  exact ⟨rfl, rfl⟩
 ·skip
  by_cases g1 : n ≤ c
  ·rw [bb_no hbb (by omega)]
   clear hbb
   have hb : decide (c < n) = false := decide_eq_false (by omega)
   go_enter Tryz.func168, Tryz.ntmps168
   go_wp2_with fail
   go_ret
   exact ⟨rfl, rfl⟩
  ·skip
   rw [bb_yes hbb (by omega)]
   clear hbb
   have hb : decide (c < n) = true := decide_eq_true (by omega)
   go_enter Tryz.func168, Tryz.ntmps168
   go_wp2_with fail
   go_ret
   exact ⟨rfl, rfl⟩
theorem f_hold1 (n : Int) (bb : Bool) (hbb : bb = true ↔ n < 256) (w : World) : Calls Tryz.prog 169 #[.int .i64 1, .int .i64 n] w fun e w' => e = .returned (.bool bb) ∧ w' = w := by
 have hd : decide (n < 256) = bb := by
  cases bb with
  | true => exact decide_eq_true (hbb.1 rfl)
  | false => exact decide_eq_false (fun h => Bool.noConfusion (hbb.2 h))
 clear hbb
 go_enter Tryz.func169, Tryz.ntmps169
 go_wp2_with fail
 go_ret
 exact ⟨by first | rfl | simp [hd], rfl⟩
theorem f_hold2 (n : Int) (bb : Bool) (hbb : bb = true ↔ n < 65536) (w : World) : Calls Tryz.prog 169 #[.int .i64 2, .int .i64 n] w fun e w' => e = .returned (.bool bb) ∧ w' = w := by
 have hd : decide (n < 65536) = bb := by
  cases bb with
  | true => exact decide_eq_true (hbb.1 rfl)
  | false => exact decide_eq_false (fun h => Bool.noConfusion (hbb.2 h))
 clear hbb
 go_enter Tryz.func169, Tryz.ntmps169
 go_wp2_with fail
 go_ret
 exact ⟨by first | rfl | simp [hd], rfl⟩
theorem f_hold0 (n : Int) (w : World) : Calls Tryz.prog 169 #[.int .i64 0, .int .i64 n] w fun e w' => e = .returned (.bool true) ∧ w' = w := by
 go_enter Tryz.func169, Tryz.ntmps169
 go_wp2_with fail
 go_ret
 exact ⟨rfl, rfl⟩
end Go.Proofs.YthgpleelpeacjaaGreatDoor
