import Derived.Test.YtbnkpnllgoghnaaGreatPb
import Derived.Test.YtbnkpnllgoghnaaGreatRows
import Derived.Deep.AppendSrc
set_option linter.unusedVariables false
namespace Go.Proofs.YtbnkpnllgoghnaaGreat
open Go.Lib (hid)
namespace ListC
open Go.ChangeShapes Go.WideShapes Go.ChangeAt Go.RowKit
open Mem Blk ListM Rowed Stages
section
variable {w : World} {d D n : Nat} {c : Int} {A B : Nat → Nat} {I : Nat → Bool} {zs : List Nat}
theorem knows_bad (h : Lnk w d D n c A B I) (hn : n ≤ 1024) (k : Int) (hk : ¬ (0 ≤ k ∧ k < (n : Int))) :
  Calls Tryz.prog 195 #[.pointer (some ⟨d,0,none⟩),.int .i64 k] w fun e w' => e = .returned (.bool false) ∧ w = w' := by
 have c0 := h.c0
 clear h
 by_cases h0 : 0 ≤ k
 ·have h1 : (n : Int) ≤ k := by omega
  clear hk
  go_enter Tryz.func195,Tryz.ntmps195
  go_wp2
  go_ret
  exact ⟨by rw [show decide (k < (n : Int)) = false from decide_eq_false (by omega)];rfl,rfl⟩
 ·have h1 : k < 0 := by omega
  clear hk
  go_enter Tryz.func195,Tryz.ntmps195
  go_wp2
  go_ret
  exact ⟨rfl,rfl⟩
theorem knows_good (h : Lnk w d D n c A B I) (hn : n ≤ 1024) (k : Nat) (hk : k < n) :
  Calls Tryz.prog 195 #[.pointer (some ⟨d,0,none⟩),.int .i64 (k : Int)] w fun e w' => e = .returned (.bool true) ∧ w = w' := by
 have c0 := h.c0
 clear h
 have hk' : (k : Int) < (n : Int) := by omega
 go_enter Tryz.func195,Tryz.ntmps195
 go_wp2
 go_ret
 exact ⟨rfl,rfl⟩
theorem takes_good (h : Lnk w d D n c A B I) (hn : n ≤ 1024) (k : Nat) (hk : k < n) :
  Calls Tryz.prog 182 #[.pointer (some ⟨d,0,none⟩),.int .i64 (k : Int)] w fun e w' => e = .returned (.bool (!I (k + 1))) ∧ w = w' := by
 have c0 := h.c0
 have ci := h.i (p := k + 1) (by omega)
 have HC := hid (knows_good h hn k hk)
 clear h
 have hk' : (k : Int) < (n : Int) := by omega
 go_enter Tryz.func182,Tryz.ntmps182
 go_wp2_with (go_at_call 195;(with_reducible refine HC.out.mono ?_);rintro e w' ⟨rfl,rfl⟩)
 go_ret
 exact ⟨rfl,rfl⟩
theorem put_any (h : Lnk w d D n c A B I) (hn : n ≤ 1024) (hc : 0 ≤ c ∧ c ≤ 1024) (p a b : Nat) (hp : p ≤ n) (ha : a ≤ n) (hb : b ≤ n) :
  Calls Tryz.prog 183 #[.pointer (some ⟨d,0,none⟩),.int .i64 (p : Int),.int .i64 (a : Int),.int .i64 (b : Int)] w fun e w' => e = .returned (.tuple #[]) ∧ Lnk w' d D n (c + 1) (upd (upd A p a) b p) (upd (upd B p b) a p) (upd I p true) ∧ Kept (Own d D) w w' ∧ w'.heap.size = w.heap.size := by
 have c0 := h.c0
 have c1 := h.c1
 have a0 := h.a hp
 have a1 := h.b hp
 have a2 := h.i hp
 have f0 := h.f0 1
 have f1 := h.f1
 have hp' : (p : Int) ≤ (n : Int) := by omega
 have ha' : (a : Int) ≤ (n : Int) := by omega
 have hb' : (b : Int) ≤ (n : Int) := by omega
 have H := hid h
 clear h
 go_enter Tryz.func183,Tryz.ntmps183
 go_upto_region 1 with (fail)
 have H1 := hid (((H.out.setA p a).setB p b).setI p true)
 have HK1 : Hid (Kept (Own d D) w (((w.setCell ⟨D,p * 3,none⟩ (.int .i64 (a : Int))).setCell ⟨D,p * 3 + 1,none⟩ (.int .i64 (b : Int))).setCell ⟨D,p * 3 + 2,none⟩ (.bool true))) := (((Kept.refl _ w).setCell (fun _ => .inr rfl) _).setCell (fun _ => .inr rfl) _).setCell (fun _ => .inr rfl) _
 have HZ1 : Hid ((((w.setCell ⟨D,p * 3,none⟩ (.int .i64 (a : Int))).setCell ⟨D,p * 3 + 1,none⟩ (.int .i64 (b : Int))).setCell ⟨D,p * 3 + 2,none⟩ (.bool true)).heap.size = w.heap.size) := by show _ = _;simp
 generalize ((w.setCell ⟨D,p * 3,none⟩ (.int .i64 (a : Int))).setCell ⟨D,p * 3 + 1,none⟩ (.int .i64 (b : Int))).setCell ⟨D,p * 3 + 2,none⟩ (.bool true) = w1 at H1 HK1 HZ1 ⊢
 clear c0 c1 a0 a1 a2 f0 f1 H
 have c0 := H1.out.c0
 have a0 := H1.out.b ha
 have f1 := H1.out.f1 (a * 3 + 1)
 go_upto_region 2 with (fail)
 have H2 := hid (H1.out.setB a p)
 have HK2 : Hid (Kept (Own d D) w (w1.setCell ⟨D,a * 3 + 1,none⟩ (.int .i64 (p : Int)))) := HK1.out.setCell (fun _ => .inr rfl) _
 have HZ2 : Hid ((w1.setCell ⟨D,a * 3 + 1,none⟩ (.int .i64 (p : Int))).heap.size = w.heap.size) := by show _ = _;simpa using HZ1.out
 generalize w1.setCell ⟨D,a * 3 + 1,none⟩ (.int .i64 (p : Int)) = w2 at H2 HK2 HZ2 ⊢
 clear c0 a0 f1 H1 HK1 HZ1 w1
 have c0 := H2.out.c0
 have a0 := H2.out.a hb
 have f1 := H2.out.f1 (b * 3)
 go_upto_region 3 with (fail)
 have H3 := hid (H2.out.setA b p)
 have HK3 : Hid (Kept (Own d D) w (w2.setCell ⟨D,b * 3,none⟩ (.int .i64 (p : Int)))) := HK2.out.setCell (fun _ => .inr rfl) _
 have HZ3 : Hid ((w2.setCell ⟨D,b * 3,none⟩ (.int .i64 (p : Int))).heap.size = w.heap.size) := by show _ = _;simpa using HZ2.out
 generalize w2.setCell ⟨D,b * 3,none⟩ (.int .i64 (p : Int)) = w3 at H3 HK3 HZ3 ⊢
 clear c0 a0 f1 H2 HK2 HZ2 w2
 have c1 := H3.out.c1
 have f0 := H3.out.f0 1
 go_wp2
 go_end0
 exact ⟨rfl,H3.out.count _,HK3.out.setCell (fun _ => .inl rfl) _,by simpa using HZ3.out⟩
def ListPost (d D n : Nat) (w : World) (v : Value) (zs : List Nat) (e : Ending) (w' : World) : Prop :=
 e = .returned v ∧ ListAt w' d D n zs ∧ Kept (Own d D) w w' ∧ w'.heap.size = w.heap.size
theorem put_front (h : ListAt w d D n zs) (k : Nat) (hk : k < n) (hz : k ∉ zs) (B : Nat → Nat) (A : Nat → Nat) (I : Nat → Bool) (hl : Lnk w d D n (zs.length : Int) A B I) (hr : Ring n A B I zs) :
  Calls Tryz.prog 183 #[.pointer (some ⟨d,0,none⟩),.int .i64 ((k : Int) + 1),.int .i64 0,.int .i64 (B 0 : Int)] w (ListPost d D n w (.tuple #[]) (k :: zs)) := by
 have hlen := hr.len
 have HP := put_any hl h.size ⟨by omega,by have := h.size;omega⟩ (k + 1) 0 (B 0) (by omega) (Nat.zero_le _) (hr.nextLe 0 (Nat.zero_le _))
 simp only [Int.natCast_add,Int.cast_ofNat_Int] at HP
 refine HP.mono ?_
 rintro e w' ⟨rfl,hl',hk',hs⟩
 exact ⟨rfl,⟨⟨_,_,_,by simpa using hl',hr.front hk hz⟩,h.size⟩,hk',hs⟩
theorem put_back (h : ListAt w d D n zs) (k : Nat) (hk : k < n) (hz : k ∉ zs) (B : Nat → Nat) (A : Nat → Nat) (I : Nat → Bool) (hl : Lnk w d D n (zs.length : Int) A B I) (hr : Ring n A B I zs) :
  Calls Tryz.prog 183 #[.pointer (some ⟨d,0,none⟩),.int .i64 ((k : Int) + 1),.int .i64 (A 0 : Int),.int .i64 0] w (ListPost d D n w (.tuple #[]) (zs ++ [k])) := by
 have hlen := hr.len
 have HP := put_any hl h.size ⟨by omega,by have := h.size;omega⟩ (k + 1) (A 0) 0 (by omega) (hr.prevLe 0 (Nat.zero_le _)) (Nat.zero_le _)
 simp only [Int.natCast_add,Int.cast_ofNat_Int] at HP
 refine HP.mono ?_
 rintro e w' ⟨rfl,hl',hk',hs⟩
 exact ⟨rfl,⟨⟨_,_,_,by simpa using hl',hr.back hk hz⟩,h.size⟩,hk',hs⟩
theorem front_good (h : ListAt w d D n zs) (k : Nat) (hk : k < n) (hz : k ∉ zs) :
  Calls Tryz.prog 154 #[.pointer (some ⟨d,0,none⟩),.int .i64 (k : Int)] w (ListPost d D n w (.bool true) (k :: zs)) := by
 obtain ⟨A,B,I,hl,hr⟩ := h.lnk
 have hsz := h.size
 have c0 := hl.c0
 have b0 := hl.b (p := 0) (Nat.zero_le _)
 have hI : I (k + 1) = false := by rw [hr.inn k hk];simpa using hz
 have HT := hid (takes_good hl hsz k hk)
 rw [hI] at HT
 have HP := hid (put_front h k hk hz B A I hl hr)
 have hk' : (k : Int) < (n : Int) := by omega
 clear h hl hr hI
 go_enter Tryz.func154,Tryz.ntmps154
 go_wp2_with (first
  | (go_at_call 182;(with_reducible refine HT.out.mono ?_);rintro e w' ⟨rfl,rfl⟩)
  | (go_at_call 183;(with_reducible refine HP.out.mono ?_);rintro e w' ⟨rfl,hl,hk,hs⟩;have HL := hid hl;have HK := hid hk;have HS := hid hs;clear hl hk hs))
 go_ret
 exact ⟨rfl,HL.out,HK.out,HS.out⟩
theorem back_good (h : ListAt w d D n zs) (k : Nat) (hk : k < n) (hz : k ∉ zs) :
  Calls Tryz.prog 176 #[.pointer (some ⟨d,0,none⟩),.int .i64 (k : Int)] w (ListPost d D n w (.bool true) (zs ++ [k])) := by
 obtain ⟨A,B,I,hl,hr⟩ := h.lnk
 have hsz := h.size
 have c0 := hl.c0
 have b0 := hl.a (p := 0) (Nat.zero_le _)
 have hI : I (k + 1) = false := by rw [hr.inn k hk];simpa using hz
 have HT := hid (takes_good hl hsz k hk)
 rw [hI] at HT
 have HP := hid (put_back h k hk hz B A I hl hr)
 have hk' : (k : Int) < (n : Int) := by omega
 clear h hl hr hI
 go_enter Tryz.func176,Tryz.ntmps176
 go_wp2_with (first
  | (go_at_call 182;(with_reducible refine HT.out.mono ?_);rintro e w' ⟨rfl,rfl⟩)
  | (go_at_call 183;(with_reducible refine HP.out.mono ?_);rintro e w' ⟨rfl,hl,hk,hs⟩;have HL := hid hl;have HK := hid hk;have HS := hid hs;clear hl hk hs))
 go_ret
 exact ⟨rfl,HL.out,HK.out,HS.out⟩
theorem takes_bad (h : ListAt w d D n zs) (k : Int) (hk : okF n zs k = false) :
  Calls Tryz.prog 182 #[.pointer (some ⟨d,0,none⟩),.int .i64 k] w fun e w' => e = .returned (.bool false) ∧ w = w' := by
 obtain ⟨A,B,I,hl,hr⟩ := h.lnk
 by_cases hkn : 0 ≤ k ∧ k < (n : Int)
 ·obtain ⟨K,rfl⟩ := Int.eq_ofNat_of_zero_le hkn.1
  have hKn : K < n := by omega
  have hI : I (K + 1) = true := by
   rw [hr.inn K hKn]
   simpa [okF,hKn] using hk
  have := takes_good hl h.size K hKn
  rwa [hI] at this
 ·have HC := hid (knows_bad hl h.size k hkn)
  clear h hl hr hk hkn
  go_enter Tryz.func182,Tryz.ntmps182
  go_wp2_with (go_at_call 195;(with_reducible refine HC.out.mono ?_);rintro e w' ⟨rfl,rfl⟩)
  go_ret
  exact ⟨rfl,rfl⟩
theorem listPost_refl (h : ListAt w d D n zs) (v : Value) : ListPost d D n w v zs (.returned v) w := ⟨rfl,h,Kept.refl _ _,rfl⟩
theorem front_any (h : ListAt w d D n zs) (k : Int) :
  Calls Tryz.prog 154 #[.pointer (some ⟨d,0,none⟩),.int .i64 k] w (ListPost d D n w (.bool (okF n zs k)) (frontL n zs k)) := by
 cases hk : okF n zs k with
 | true =>
  have hk' := hk
  simp only [okF,Bool.and_eq_true,decide_eq_true_eq,Bool.not_eq_true',decide_eq_false_iff_not] at hk'
  obtain ⟨K,rfl⟩ := Int.eq_ofNat_of_zero_le hk'.1.1
  have := front_good h K (by omega) hk'.2
  unfold frontL
  rw [hk]
  exact this
 | false =>
  have HT := hid (takes_bad h k hk)
  have HQ := hid (listPost_refl h (.bool false))
  have HE : Hid (frontL n zs k = zs) := by show _ = _;unfold frontL;rw [hk];rfl
  clear h hk
  go_enter Tryz.func154,Tryz.ntmps154
  go_wp2_with (go_at_call 182;(with_reducible refine HT.out.mono ?_);rintro e w' ⟨rfl,rfl⟩)
  go_ret
  rw [HE.out]
  exact HQ.out
theorem len_any (h : ListAt w d D n zs) : Calls Tryz.prog 139 #[.pointer (some ⟨d,0,none⟩)] w fun e w' => e = .returned (.int .i64 (zs.length : Int)) ∧ w = w' := by
 obtain ⟨A,B,I,hl,hr⟩ := h.lnk
 have c1 := hl.c1
 clear h hl hr
 go_enter Tryz.func139,Tryz.ntmps139
 go_wp2
 go_ret
 exact ⟨rfl,rfl⟩
theorem len_nil : Calls Tryz.prog 139 #[.pointer none] w fun e w' => e = .returned (.int .i64 0) ∧ w = w' := by
 go_enter Tryz.func139,Tryz.ntmps139
 go_wp2
 go_ret
 exact ⟨rfl,rfl⟩
theorem first_nil : Calls Tryz.prog 178 #[.pointer none] w fun e w' => e = .returned (.int .i64 (-1)) ∧ w = w' := by
 go_enter Tryz.func178,Tryz.ntmps178
 go_wp2_with (go_at_call 139;(with_reducible refine len_nil.mono ?_);rintro e w' ⟨rfl,rfl⟩)
 go_ret
 exact ⟨rfl,rfl⟩
theorem first_any (h : ListAt w d D n zs) : Calls Tryz.prog 178 #[.pointer (some ⟨d,0,none⟩)] w fun e w' => e = .returned (.int .i64 (first zs)) ∧ w = w' := by
 obtain ⟨A,B,I,hl,hr⟩ := h.lnk
 have c0 := hl.c0
 have b0 := hl.b (p := 0) (Nat.zero_le _)
 have HL := hid (len_any h)
 have HE := hid hr.first
 have hsz := h.size
 have hle := hr.nextLe 0 (Nat.zero_le _)
 clear h hl hr
 by_cases hz : zs = []
 ·subst hz
  simp only [List.length_nil,Int.cast_ofNat_Int] at HL
  go_enter Tryz.func178,Tryz.ntmps178
  go_wp2_with (go_at_call 139;(with_reducible refine HL.out.mono ?_);rintro e w' ⟨rfl,rfl⟩)
  go_ret
  exact ⟨rfl,rfl⟩
 ·have hz' : ((zs.length : Int) == 0) = false := by
   rw [beq_eq_false_iff_ne]
   have := List.length_pos_iff.2 hz
   omega
  have HE' : Hid ((B 0 : Int) - 1 = first zs) := HE
  go_enter Tryz.func178,Tryz.ntmps178
  go_wp2_with (go_at_call 139;(with_reducible refine HL.out.mono ?_);rintro e w' ⟨rfl,rfl⟩)
  go_ret
  exact ⟨by rw [← HE'.out];rfl,rfl⟩
end
end ListC
namespace ListD
open Go.ChangeShapes Go.WideShapes Go.ChangeAt Go.RowKit
open Mem Blk ListM Rowed ListC Stages
section
variable {w : World} {d D n : Nat} {c : Int} {A B : Nat → Nat} {I : Nat → Bool} {zs : List Nat}
theorem nxtI_bad {k : Int} (hr : Ring n A B I zs) (hk : ¬ (0 ≤ k ∧ k < (n : Int))) : nxtI zs k = -1 := by
 unfold nxtI
 by_cases h0 : 0 ≤ k
 ·rw [if_pos h0]
  have : k.toNat ∉ zs := fun hm => hk ⟨h0,by have := hr.lt _ hm;omega⟩
  unfold nxt
  rw [List.idxOf_eq_length this,if_neg (by omega)]
 ·rw [if_neg h0]
theorem okO_bad {k : Int} (hr : Ring n A B I zs) (hk : ¬ (0 ≤ k ∧ k < (n : Int))) : okO zs k = false := by
 unfold okO
 by_cases h0 : 0 ≤ k
 ·have : k.toNat ∉ zs := fun hm => hk ⟨h0,by have := hr.lt _ hm;omega⟩
  simp [this]
 ·simp [h0]
theorem has_any (h : ListAt w d D n zs) (k : Int) : Calls Tryz.prog 181 #[.pointer (some ⟨d,0,none⟩),.int .i64 k] w fun e w' => e = .returned (.bool (okO zs k)) ∧ w = w' := by
 obtain ⟨A,B,I,hl,hr⟩ := h.lnk
 have hsz := h.size
 by_cases hkn : 0 ≤ k ∧ k < (n : Int)
 ·obtain ⟨K,rfl⟩ := Int.eq_ofNat_of_zero_le hkn.1
  have hKn : K < n := by omega
  have hk' : (K : Int) < (n : Int) := by omega
  have c0 := hl.c0
  have b0 := hl.i (p := K + 1) (by omega)
  have HC := hid (knows_good hl hsz K hKn)
  have HE : Hid (okO zs (K : Int) = I (K + 1)) := by
   show _ = _
   unfold okO
   rw [hr.inn K hKn,Int.toNat_natCast,decide_eq_true hkn.1];rfl
  clear h hl hr hkn
  go_enter Tryz.func181,Tryz.ntmps181
  go_wp2_with (go_at_call 195;(with_reducible refine HC.out.mono ?_);rintro e w' ⟨rfl,rfl⟩)
  go_ret
  exact ⟨by rw [HE.out];rfl,rfl⟩
 ·have HC := hid (knows_bad hl hsz k hkn)
  have HE := hid (okO_bad hr hkn)
  clear h hl hr hkn
  go_enter Tryz.func181,Tryz.ntmps181
  go_wp2_with (go_at_call 195;(with_reducible refine HC.out.mono ?_);rintro e w' ⟨rfl,rfl⟩)
  go_ret
  exact ⟨by rw [HE.out];rfl,rfl⟩
def NewPost (n : Nat) (w : World) (e : Ending) (w' : World) : Prop :=
 ∃ d D,e = .returned (.pointer (some ⟨d,0,none⟩)) ∧ ListAt w' d D n [] ∧ w.heap.size ≤ d ∧ w.heap.size ≤ D ∧ Grow w w'
theorem made3 (w : World) (n : Nat) (hn : n ≤ 1024) : (Instr.makeSlice 129 (.int .i64 ((n : Int) + 1)) (.int .i64 ((n : Int) + 1))).run Tryz.prog w = .ok (.slice (some ⟨w.heap.size,0,none⟩) (n + 1) (n + 1)) (w.alloc (.cells (madeCells #[.int .i64 0,.int .i64 0,.bool false] ((n + 1) * 3)) 153)) := by
 obtain ⟨i,hi,hz,hs,hb⟩ := info_parts (show (Tryz.prog.info? 153).map (fun i => (i.zero,i.size,i.bytes)) = some (some (.agg #[.int .i64 0,.int .i64 0,.bool false]),3,24) from by kernel_rfl)
 have := run_make (P := Tryz.prog) w 129 153 i _ Tryz.underlying129 hi hz .i64 .i64 ((n : Int) + 1) ((n : Int) + 1) (by omega) (Int.le_refl _) (by rw [hb];omega) (by omega)
 rw [hs,show ((n : Int) + 1).toNat = n + 1 by omega] at this
 exact this
theorem new_good (n : Nat) (hn : n ≤ 1024) : Calls Tryz.prog 38 #[.int .i64 (n : Int)] w (NewPost n w) := by
 have hn' : (n : Int) ≤ 1024 := by omega
 have km := fun (w : World) => made3 w n hn
 go_enter Tryz.func38,Tryz.ntmps38
 go_wp2
 go_ret
 clear km
 have hb := Blk.new (w.alloc (.cells (madeCells #[.int .i64 0,.int .i64 0,.bool false] ((n + 1) * 3)) 153)) 131 [.slice (some ⟨w.heap.size,0,none⟩) (n + 1) (n + 1),.int .i64 0]
 have e1 : (w.alloc (.cells (madeCells #[.int .i64 0,.int .i64 0,.bool false] ((n + 1) * 3)) 153)).heap.size = w.heap.size + 1 := by simp
 rw [e1] at hb
 have hr : Row (w.alloc (.cells (madeCells #[.int .i64 0,.int .i64 0,.bool false] ((n + 1) * 3)) 153)) w.heap.size ((n + 1) * 3) (lcell (fun _ => 0) (fun _ => 0) (fun _ => false)) :=
  ⟨_,_,heap_alloc_new w _,by simp [size_madeCells],fun i hi => by
   simp only [madeCells,Array.getElem?_map,Array.getElem?_range,hi,if_pos,Option.map_some]
   congr 1
   unfold lcell
   have : i % 3 = 0 ∨ i % 3 = 1 ∨ i % 3 = 2 := by omega
   rcases this with e | e | e <;> simp [e]⟩
 refine ⟨_,_,rfl,⟨⟨_,_,_,⟨Row.of_blk hb rfl (fun i hi => ?_),hr.kept (F := fun _ => False) ((Kept.refl _ _).alloc _) id,by omega⟩,Ring.zero n⟩,hn⟩,by omega,by omega,((Kept.refl _ _).alloc _).alloc _⟩
 have : i = 0 ∨ i = 1 := by omega
 rcases this with rfl | rfl <;> rfl
theorem out_good (h : ListAt w d D n zs) (k : Nat) (hz : k ∈ zs) :
  Calls Tryz.prog 153 #[.pointer (some ⟨d,0,none⟩),.int .i64 (k : Int)] w fun e w' => e = .returned (.bool true) ∧ ListAt w' d D n (zs.erase k) ∧ Kept (Own d D) w w' := by
 obtain ⟨A,B,I,hl,hr⟩ := h.lnk
 have hsz := h.size
 have hk := hr.lt k hz
 have hk' : (k : Int) < (n : Int) := by omega
 have hlen := hr.len
 have hpos : 0 < zs.length := List.length_pos_of_mem hz
 have c0 := hl.c0
 have a0 := hl.a (p := k + 1) (by omega)
 have b0 := hl.b (p := k + 1) (by omega)
 have i0 := hl.i (p := k + 1) (by omega)
 have HC := hid (has_any h k)
 have HE : Hid (okO zs (k : Int) = true) := by
  show _ = _
  unfold okO
  simp [hz]
 rw [HE.out] at HC
 have HA := hid (hr.prevLe (k + 1) (by omega))
 have HB := hid (hr.nextLe (k + 1) (by omega))
 have HR := hid (hr.del hz)
 have HLN : Hid ((zs.erase k).length = zs.length - 1) := by show _ = _;rw [List.length_erase,if_pos hz]
 have H := hid hl
 clear h hl hr
 generalize A (k + 1) = a at *
 generalize B (k + 1) = b at *
 go_enter Tryz.func153,Tryz.ntmps153
 go_upto_region 4 with (go_at_call 181;(with_reducible refine HC.out.mono ?_);rintro e w' ⟨rfl,rfl⟩)
 have HGA : Hid (Grow w (w.alloc (.cells #[.int .i64 (a : Int),.int .i64 (b : Int),.bool (I (k + 1))] 153))) := (Kept.refl _ w).alloc _
 have HBA := hid (Blk.new w 153 [.int .i64 (a : Int),.int .i64 (b : Int),.bool (I (k + 1))])
 have HNG : Hid (¬ Own d D w.heap.size) := fun x => by
  have := H.out.lt
  rcases x with x | x <;> omega
 have H1 := hid (H.out.kept HGA.out (fun _ x => x.elim))
 have HK1 : Hid (Kept (Own d D) w (w.alloc (.cells #[.int .i64 (a : Int),.int .i64 (b : Int),.bool (I (k + 1))] 153))) := HGA.out.kept
 clear c0 a0 b0 i0 H HGA
 generalize hwa : w.alloc (.cells #[.int .i64 (a : Int),.int .i64 (b : Int),.bool (I (k + 1))] 153) = wa at H1 HBA HK1 ⊢
 clear hwa
 generalize w.heap.size = g at HBA HNG ⊢
 have haz : (a : Int) ≤ (n : Int) := by have := HA.out;omega
 have hbz : (b : Int) ≤ (n : Int) := by have := HB.out;omega
 have q0 := up_cell (F := (· = D)) (w := wa.drew) H1.out.c0 H1.out.ne
 have q1 := up_cell (F := (· = D)) (w := wa.drew) (HBA.out.cell 0) (fun x => HNG.out (.inr x))
 have q2 := up_cell (F := (· = D)) (w := wa.drew) (HBA.out.cell 1) (fun x => HNG.out (.inr x))
 have r0 := H1.out.b HA.out
 have r1 := H1.out.f1 (a * 3 + 1)
 refine wp_region_stages (Kept (· = D)) (kept_refl _) (kept_trans _) [([0,1,2,3,4,5,6,7,8,9],10)] [] (by kernel_rfl) (by kernel_rfl) ?_
 simp only [selSt,sel,ZmC,ZmN,ZgS,ZgZ]
 refine st_cons fun K1 hK1 => ?_
 repeat (go_big_quiet_step (fail))
 refine wpQuiet_nil ?_
 clear q0 q1 q2
 go_wp2
 refine norm_up (hK1 _ _ (kept_set _ _ _ _) (st_nil fun K2 hK2 => wpQuiet_nil (hK2 _ ?_)))
 clear hK1 hK2 K1 K2 r0 r1
 have H2 : Hid (Lnk (wa.setCell ⟨D,a * 3 + 1,none⟩ (.int .i64 (b : Int))).drew d D n (zs.length : Int) A (upd B a b) I) := (H1.out.setB a b).kept (Kept.drew' _) (F := fun _ => False) (fun _ x => x.elim)
 have HK2 : Hid (Kept (Own d D) w (wa.setCell ⟨D,a * 3 + 1,none⟩ (.int .i64 (b : Int))).drew) := (HK1.out.setCell (fun _ => .inr rfl) _).drew
 have HB2 : Hid (Blk (wa.setCell ⟨D,a * 3 + 1,none⟩ (.int .i64 (b : Int))).drew g 153 [.int .i64 (a : Int),.int .i64 (b : Int),.bool (I (k + 1))]) := (HBA.out.other (p := ⟨D,a * 3 + 1,none⟩) (fun x => HNG.out (.inr x)) _).drew
 generalize (wa.setCell ⟨D,a * 3 + 1,none⟩ (.int .i64 (b : Int))).drew = w2 at H2 HK2 HB2 ⊢
 clear H1 HK1 HBA wa
 go_upto_region 5 with (fail)
 have q0 := up_cell (F := (· = D)) (w := w2.drew) H2.out.c0 H2.out.ne
 have q1 := up_cell (F := (· = D)) (w := w2.drew) (HB2.out.cell 0) (fun x => HNG.out (.inr x))
 have q2 := up_cell (F := (· = D)) (w := w2.drew) (HB2.out.cell 1) (fun x => HNG.out (.inr x))
 have r0 := H2.out.a HB.out
 have r1 := H2.out.f1 (b * 3)
 refine wp_region_stages (Kept (· = D)) (kept_refl _) (kept_trans _) [([0,1,2,3,4,5,6,7,8,9],10)] [] (by kernel_rfl) (by kernel_rfl) ?_
 simp only [selSt,sel,ZmC,ZmN,ZgS,ZgZ]
 refine st_cons fun K1 hK1 => ?_
 repeat (go_big_quiet_step (fail))
 refine wpQuiet_nil ?_
 clear q0 q1 q2
 go_wp2
 refine norm_up (hK1 _ _ (kept_set _ _ _ _) (st_nil fun K2 hK2 => wpQuiet_nil (hK2 _ ?_)))
 clear hK1 hK2 K1 K2 r0 r1
 have H3 : Hid (Lnk (w2.setCell ⟨D,b * 3,none⟩ (.int .i64 (a : Int))).drew d D n (zs.length : Int) (upd A b a) (upd B a b) I) := (H2.out.setA b a).kept (Kept.drew' _) (F := fun _ => False) (fun _ x => x.elim)
 have HK3 : Hid (Kept (Own d D) w (w2.setCell ⟨D,b * 3,none⟩ (.int .i64 (a : Int))).drew) := (HK2.out.setCell (fun _ => .inr rfl) _).drew
 generalize (w2.setCell ⟨D,b * 3,none⟩ (.int .i64 (a : Int))).drew = w3 at H3 HK3 ⊢
 clear H2 HK2 HB2 w2 haz hbz
 have c0 := H3.out.c0
 have a0 := H3.out.a (p := k + 1) (by omega)
 have b0 := H3.out.b (p := k + 1) (by omega)
 have i0 := H3.out.i (p := k + 1) (by omega)
 have f1 := H3.out.f1
 go_upto_region 7 with (fail)
 have H4 : Hid (Lnk (((w3.setCell ⟨D,(k + 1) * 3,none⟩ (.int .i64 0)).setCell ⟨D,(k + 1) * 3 + 1,none⟩ (.int .i64 0)).setCell ⟨D,(k + 1) * 3 + 2,none⟩ (.bool false)) d D n (zs.length : Int) (upd (upd A b a) (k + 1) 0) (upd (upd B a b) (k + 1) 0) (upd I (k + 1) false)) := ((H3.out.setA (k + 1) 0).setB (k + 1) 0).setI (k + 1) false
 have HK4 : Hid (Kept (Own d D) w (((w3.setCell ⟨D,(k + 1) * 3,none⟩ (.int .i64 0)).setCell ⟨D,(k + 1) * 3 + 1,none⟩ (.int .i64 0)).setCell ⟨D,(k + 1) * 3 + 2,none⟩ (.bool false))) := ((HK3.out.setCell (fun _ => .inr rfl) _).setCell (fun _ => .inr rfl) _).setCell (fun _ => .inr rfl) _
 generalize (((w3.setCell ⟨D,(k + 1) * 3,none⟩ (.int .i64 0)).setCell ⟨D,(k + 1) * 3 + 1,none⟩ (.int .i64 0)).setCell ⟨D,(k + 1) * 3 + 2,none⟩ (.bool false)) = w4 at H4 HK4 ⊢
 clear c0 a0 b0 i0 f1 H3 HK3 w3
 have c1 := H4.out.c1
 have f0 := H4.out.f0 1
 have hl63 : (zs.length : Int) ≤ 1024 := by omega
 have hl0 : (1 : Int) ≤ (zs.length : Int) := by omega
 go_wp2
 go_ret
 refine ⟨rfl,⟨⟨_,_,_,?_,HR.out⟩,hsz⟩,HK4.out.setCell (fun _ => .inl rfl) _⟩
 have := H4.out.count ((zs.length : Int) - 1)
 rw [HLN.out,show ((zs.length - 1 : Nat) : Int) = (zs.length : Int) - 1 by omega]
 exact this
theorem out_any (h : ListAt w d D n zs) (k : Int) :
  Calls Tryz.prog 153 #[.pointer (some ⟨d,0,none⟩),.int .i64 k] w fun e w' => e = .returned (.bool (okO zs k)) ∧ ListAt w' d D n (outL zs k) ∧ Kept (Own d D) w w' := by
 cases hk : okO zs k with
 | true =>
  have hk' := hk
  simp only [okO,Bool.and_eq_true,decide_eq_true_eq] at hk'
  obtain ⟨K,rfl⟩ := Int.eq_ofNat_of_zero_le hk'.1
  have := out_good h K hk'.2
  unfold outL
  rw [hk]
  exact this
 | false =>
  have HT := hid (has_any h k)
  rw [hk] at HT
  have HQ := hid h
  have HE : Hid (outL zs k = zs) := by show _ = _;unfold outL;rw [hk];rfl
  clear h hk
  go_enter Tryz.func153,Tryz.ntmps153
  go_wp2_with (go_at_call 181;(with_reducible refine HT.out.mono ?_);rintro e w' ⟨rfl,rfl⟩)
  go_ret
  rw [HE.out]
  exact ⟨rfl,HQ.out,Kept.refl _ _⟩
theorem infoI : (Tryz.prog.info? 3).map (fun i => (i.zero,i.size,i.bytes)) = some (some (.int .i64 0),1,8) := by kernel_rfl
theorem all_any (h : ListAt w d D n zs) :
  Calls Tryz.prog 86 #[.pointer (some ⟨d,0,none⟩)] w fun e w' => ∃ A c,e = .returned (.slice A zs.length c) ∧ Sl w' w'.heap.size .i64 A zs.length (ints zs) ∧ (∀ x,A = some x → w.heap.size ≤ x.block) ∧ Grow w w' := by
 obtain ⟨A,B,I,hl,hr⟩ := h.lnk
 have HL := hid (len_any h)
 have hsz := h.size
 have hlen := hr.len
 have HR := hid hr
 have H := hid hl
 clear h hl hr
 by_cases hz : zs = []
 ·subst hz
  simp only [List.length_nil,Int.cast_ofNat_Int] at HL
  go_enter Tryz.func86,Tryz.ntmps86
  go_wp2
  go_step3
  go_wp2_with (go_at_call 139;(with_reducible refine HL.out.mono ?_);rintro e w' ⟨rfl,rfl⟩)
  rw [Exit.noGoto_ret]
  go_ret
  exact ⟨none,0,rfl,Sl.nil _ _ _ _,fun x hx => (by cases hx),Kept.refl _ _⟩
 ·have hz' : ((zs.length : Int) == 0) = false := by
   rw [beq_eq_false_iff_ne]
   have := List.length_pos_iff.2 hz
   omega
  go_enter Tryz.func86,Tryz.ntmps86
  go_wp2
  go_step3
  go_wp2_with (go_at_call 139;(with_reducible refine HL.out.mono ?_);rintro e w' ⟨rfl,rfl⟩)
  go_step3
  go_wp2
  go_loopg [3,4] zs.length (fun g v i wr => ∃ j : Nat,j + g = zs.length ∧ i = .int .i64 (pl zs j : Int) ∧ wr.ownsRow w.heap.size 3 1 v j (((ints zs).take j).map (Value.int .i64)) ∧ Below w.heap.size w wr)
  case atStart => exact ⟨0,by omega,rfl,World.ownsRow_nil _ _ _ _,Below.refl _ _⟩
  case round =>
   obtain ⟨j,hg,rfl,hown,hbel⟩ := hrel
   have HO := hid hown
   have HB := hid hbel
   have HG := hid hg
   have hdev := H.out.kept (Kept.of_below hbel (F := fun _ => False)) (fun _ x => x.elim)
   have hpl := pl_le HR.out.lt j (by omega)
   have hplz : (pl zs j : Int) ≤ (n : Int) := by omega
   have c0 := hdev.c0
   have b0 := hdev.b hpl
   have hst := HR.out.step (i := j) (by omega)
   by_cases hj : j < zs.length
   ·rw [hst,if_pos hj,show ((pl zs (j + 1) : Nat) : Int) = ((zs.getD j 0 : Nat) : Int) + 1 from rfl] at b0
    have hx := HR.out.lt (zs.getD j 0) (by rw [List.getD_eq_getElem?_getD,List.getElem?_eq_getElem hj];exact List.getElem_mem _)
    have HE : Hid ((ints zs).take (j + 1) = (ints zs).take j ++ [((zs.getD j 0 : Nat) : Int)]) := by
     show _ = _
     rw [← ints_get,List.take_add_one,List.getD_eq_getElem?_getD,List.getElem?_eq_getElem (by rw [ints_len];exact hj)];rfl
    have HPE : Hid ((pl zs (j + 1) : Int) = ((zs.getD j 0 : Nat) : Int) + 1) := rfl
    have hbs : w.heap.size ≤ wr.heap.size := hbel.size
    clear hst hdev hown hbel hg
    generalize zs.getD j 0 = x at *
    generalize pl zs j = p at *
    have hxz : (x : Int) < (n : Int) := by omega
    go_wp2_with (at_builtin;refine wpList_append_one rfl (.tmp 17) (.tmp 20) 33 rfl w.heap.size 3 (.int .i64 0) 8 Tryz.underlying33 infoI rfl _ j _ rfl (World.ownsRow.alloc HO.out _) wr.heap.size (.int .i64 (x : Int)) rfl (cell_new1 _ _ _) rfl (by unfold maxLen;omega) (by omega) (by simp;omega) ?_;intro g cap w2 hown hbel;have HOW := hid hown;have HBW := hid hbel;clear hown hbel)
    go_roundg (gk - 1)
    case measure => have := HG.out;omega
    case rel => exact ⟨j + 1,by have := HG.out;omega,by rw [HPE.out],by rw [HE.out];simpa using HOW.out,(HB.out.alloc hbs _).trans HBW.out⟩
   ·obtain rfl : j = zs.length := by omega
    rw [hst,if_neg hj] at b0
    obtain ⟨A',c',rfl,hsl⟩ := Sl.of_row1 (n := zs.length) hown
    rw [List.take_of_length_le (by rw [ints_len];omega)] at hsl
    have HSL := hid hsl
    have HNEW : Hid (∀ x,A' = some x → w.heap.size ≤ x.block) := fun x e => (World.ownsRow.lt hown x.block (by rw [e];rfl)).1
    clear hst hdev hown hbel hg hsl
    simp only [Int.cast_ofNat_Int] at b0
    go_wp2
    rw [Exit.noGoto_ret]
    go_ret
    exact ⟨A',c',rfl,HSL.out,HNEW.out,Kept.of_below HB.out⟩
end
end ListD
namespace ListR
open Go.ChangeShapes Go.WideShapes Go.ChangeAt Go.RowKit
open Mem Blk ListM Rowed ListC ListD Stages
section
variable {w : World} {base n : Nat} {v : Value} {zs ys : List Int}
theorem own_form (h : w.ownsRow base 3 1 v n (zs.map (Value.int .i64))) : ∃ A c,v = .slice A n c ∧ Sl w w.heap.size .i64 A n zs ∧ n ≤ c ∧ c ≤ maxLen ∧ ∀ x,A = some x → base ≤ x.block := by
 obtain ⟨A,c,rfl,hs⟩ := Sl.of_row1 h
 refine ⟨A,c,rfl,hs,?_⟩
 rcases h.2 with ⟨e,h0⟩ | ⟨g,cap,cur,e,hb,_,h1,h2,_⟩
 ·injection e with e1 e2 e3
  subst e1 e3
  exact ⟨by omega,Nat.zero_le _,fun x hx => by cases hx⟩
 ·injection e with e1 e2 e3
  subst e1 e3
  exact ⟨h1,h2,fun x hx => by injection hx with hx;subst hx;exact hb⟩
theorem append_sl {m c B : Nat} {A : Option Addr} (ty : TypeId) (hown : w.ownsRow base 3 1 v n (ys.map (Value.int .i64))) (hs : Sl w B .i64 A m zs) (hn : n + m ≤ 1000000) (hb : base ≤ w.heap.size) :
  ∃ v' w',(Builtin.append_ #[33,33] ty #[v,.slice A m c]).run Tryz.prog w = .ok v' w' ∧ w'.ownsRow base 3 1 v' (n + m) ((ys ++ zs).map (Value.int .i64)) ∧ Below base w w' := by
 obtain ⟨i,hi,hz,hsz,hby⟩ := info_parts infoI
 rcases Nat.eq_zero_or_pos m with rfl | hm
 ·have hz0 : zs = [] := List.eq_nil_of_length_eq_zero hs.len
  subst hz0
  refine ⟨v,w,?_,by simpa using hown,Below.refl _ _⟩
  have hsrc : Src Tryz.prog i.size 33 (.slice A 0 c) 0 [] w := by
   cases A with
   | none => exact Src.ofNil w Tryz.underlying33 c
   | some a => exact Src.ofSlice w Tryz.underlying33 a 0 c [] (by simp) (fun j u h => by simp at h) (fun u h => by cases h)
  obtain ⟨A',c',rfl,_,hle,_⟩ := own_form hown
  cases A' <;> simp [Builtin.append_,run_underlying Tryz.underlying33,sizeOf,typeInfo,hi,hsrc.len,hle,hsrc.cells,storeCells]
 ·obtain ⟨b,off,rfl,_,hc⟩ := hs.at_ hm
  obtain ⟨g,cap,w',hr,h2,h3,_,_⟩ := run_append_lies (P := Tryz.prog) w 33 ty base 3 i (.int .i64 0) 1 8 Tryz.underlying33 hi hz hsz hby rfl (by decide) v n _ hown ⟨b,off,none⟩ m c (zs.map (Value.int .i64)) (by rw [List.length_map,hs.len,Nat.mul_one])
   (fun j u hj => by
     have hjn : j < m := by
      have := (List.getElem?_eq_some_iff.1 hj).1
      rw [List.length_map,hs.len] at this
      exact this
     have e : (⟨b,off,none⟩ : Addr).add j = ⟨b,off + j,none⟩ := by unfold Addr.add;split <;> simp_all
     rw [e,hc j hjn,← hj]
     simp [List.getD_eq_getElem?_getD,List.getElem?_eq_getElem (show j < zs.length by rw [hs.len];exact hjn)])
   (fun u hu => by obtain ⟨x,_,rfl⟩ := List.mem_map.1 hu;rfl) hm (by unfold maxLen;omega) (by omega) hb _ rfl
  refine ⟨_,w',hr,by rw [List.map_append];exact h2,?_⟩
  exact (Below.refl _ _).grown h3 hb fun k hk => (hown.lt k hk).1
end
structure RefAt (w : World) (m n : Nat) (F : Nat → Prop) (zs : List Nat) : Prop where
 hd : ∃ A c,Row w m 2 (fun j => if j = 0 then .int .i64 (n : Int) else .slice A zs.length c) ∧ Sl w w.heap.size .i64 A zs.length (ints zs) ∧ (zs.length ≤ c ∧ c ≤ maxLen) ∧ ∀ x,0 < zs.length → A = some x → x.block ≠ m ∧ ¬ F x.block
 fm : ¬ F m
section
variable {w w' : World} {m n : Nat} {F G : Nat → Prop} {zs : List Nat}
theorem RefAt.kept (h : RefAt w m n F zs) (hk : Kept G w w') (hG : ∀ k,G k → F k) : RefAt w' m n F zs := by
 obtain ⟨A,c,h1,h2,h3,h4⟩ := h.hd
 refine ⟨⟨A,c,h1.kept hk fun x => h.fm (hG _ x),⟨h2.1,fun hn => ?_⟩,h3,h4⟩,h.fm⟩
 obtain ⟨b,off,rfl,hb,hc⟩ := h2.2 hn
 exact ⟨b,off,rfl,Nat.lt_of_lt_of_le hb hk.size,fun j hj => (hk.cell (p := ⟨b,off + j,none⟩) hb (fun x => (h4 _ hn rfl).2 (hG _ x))).trans (hc j hj)⟩
theorem RefAt.grow (h : RefAt w m n F zs) (hk : Grow w w') : RefAt w' m n F zs := h.kept hk fun _ x => x.elim
theorem RefAt.lt (h : RefAt w m n F zs) : m < w.heap.size := by
 obtain ⟨A,c,h1,_⟩ := h.hd
 exact h1.lt
theorem RefAt.widen (h : RefAt w m n F zs) (hG : ∀ k,k < w.heap.size → G k → F k) : RefAt w m n G zs := by
 have hm := h.lt
 obtain ⟨A,c,h1,h2,h3,h4⟩ := h.hd
 refine ⟨⟨A,c,h1,h2,h3,fun x hn e => ?_⟩,fun hg => h.fm (hG _ hm hg)⟩
 obtain ⟨b,off,e',hb,_⟩ := h2.2 hn
 rw [e'] at e
 injection e with e
 subst e
 have := h4 _ hn e'
 exact ⟨this.1,fun hg => this.2 (hG _ hb hg)⟩
theorem RefAt.put {ys : List Nat} {A : Option Addr} {c : Nat} (h : RefAt w m n F zs) (hs : Sl w w.heap.size .i64 A ys.length (ints ys)) (hc : ys.length ≤ c ∧ c ≤ maxLen) (hA : ∀ x,0 < ys.length → A = some x → x.block ≠ m ∧ ¬ F x.block) :
  RefAt (w.setCell ⟨m,1,none⟩ (.slice A ys.length c)) m n F ys := by
 obtain ⟨A0,c0,h1,h2,h3,h4⟩ := h.hd
 refine ⟨⟨A,c,(h1.set 1 _).congr fun i hi => ?_,⟨hs.1,fun hn => ?_⟩,hc,hA⟩,h.fm⟩
 ·have : i = 0 ∨ i = 1 := by omega
  rcases this with rfl | rfl <;> rfl
 ·obtain ⟨b,off,rfl,hb,hcl⟩ := hs.2 hn
  refine ⟨b,off,rfl,by simpa using hb,fun j hj => ?_⟩
  have := (kept_set w m 1 (.slice (some ⟨b,off,none⟩) ys.length c)).cell (p := ⟨b,off + j,none⟩) hb (hA _ hn rfl).1
  rw [this,hcl j hj]
end
def placeI (zs : List Nat) (k : Int) : Int := if okO zs k then ((zs.idxOf k.toNat : Nat) : Int) else -1
theorem okO_get {zs : List Nat} {j : Nat} (hn : zs.Nodup) (hj : j < zs.length) : okO zs ((zs.getD j 0 : Nat) : Int) = true ∧ placeI zs ((zs.getD j 0 : Nat) : Int) = (j : Int) := by
 have hm : zs.getD j 0 = zs[j] := by rw [List.getD_eq_getElem?_getD,List.getElem?_eq_getElem hj];rfl
 have h1 : okO zs ((zs.getD j 0 : Nat) : Int) = true := by
  unfold okO
  rw [hm]
  simp
 refine ⟨h1,?_⟩
 unfold placeI
 rw [if_pos h1,Int.toNat_natCast,hm,hn.idxOf_getElem]
theorem okO_none {zs : List Nat} {k : Int} (h : ∀ i,i < zs.length → ((zs.getD i 0 : Nat) : Int) ≠ k) : okO zs k = false := by
 unfold okO
 by_cases h0 : 0 ≤ k
 ·have : k.toNat ∉ zs := fun hm => by
   obtain ⟨i,hi,e⟩ := List.getElem_of_mem hm
   refine h i hi ?_
   rw [List.getD_eq_getElem?_getD,List.getElem?_eq_getElem hi,Option.getD_some,e]
   omega
  simp [this]
 ·simp [h0]
theorem place_any {w : World} (A : Option Addr) (c B : Nat) (zs : List Nat) (k : Int) (hn : zs.Nodup) (hl : zs.length ≤ 100000) (h : Sl w B .i64 A zs.length (ints zs)) :
  Calls Tryz.prog 163 #[.slice A zs.length c,.int .i64 k] w fun e w' => e = .returned (.int .i64 (placeI zs k)) ∧ w = w' := by
 have H := hid h
 have HN := hid hn
 have hlz : (zs.length : Int) ≤ 100000 := by omega
 clear h hn
 go_enter Tryz.func163,Tryz.ntmps163
 go_wp2
 go_loopg [5] zs.length (fun gx i wr => ∃ j : Nat,j + gx = zs.length ∧ i = .int .i64 (j : Int) ∧ (∀ i,i < j → ((zs.getD i 0 : Nat) : Int) ≠ k) ∧ w = wr)
 case atStart => exact ⟨0,by omega,rfl,fun i hi => absurd hi (by omega),rfl⟩
 case round =>
  obtain ⟨j,hg,rfl,hno,rfl⟩ := hrel
  have HG := hid hg
  have HNO := hid hno
  clear hg hno
  by_cases hj : j < zs.length
  ·have hjz : (j : Int) < (zs.length : Int) := by omega
   obtain ⟨b,o,rfl,_,hc⟩ := H.out.at_ (by omega)
   have r1 := hc j hj
   rw [ints_get] at r1
   have HOK := hid (okO_get HN.out hj)
   have HX : Hid (∀ y : Int,((zs.getD j 0 : Nat) : Int) = y → ∀ i,i < j + 1 → y ≠ k → ((zs.getD i 0 : Nat) : Int) ≠ k) := fun y hy i hi hne => by
    by_cases e : i = j
    ·rw [e,hy];exact hne
    ·exact HNO.out i (by omega)
   clear hc
   generalize ((zs.getD j 0 : Nat) : Int) = x at *
   by_cases hx : x = k
   ·subst hx
    go_wp2
    go_ret
    exact ⟨by rw [HOK.out.2];rfl,rfl⟩
   ·have hx' : (x == k) = false := by simpa using hx
    go_wp2
    go_roundg (gk - 1)
    case measure => have := HG.out;omega
    case rel => exact ⟨j + 1,by have := HG.out;omega,by go_num,fun i hi => HX.out x rfl i hi hx,rfl⟩
  ·obtain rfl : j = zs.length := by have := HG.out;omega
   have HE : Hid (placeI zs k = -1) := by
    show _ = _
    unfold placeI
    rw [okO_none HNO.out];rfl
   go_wp2
   go_ret
   exact ⟨by rw [HE.out];rfl,rfl⟩
end ListR
namespace Cells
open Go.RowKit
open Mem Blk
def Row (w : World) (b n : Nat) (f : Nat → Value) : Prop := ∃ cur t,w.heap[b]? = some (.cells cur t (0,0)) ∧ n ≤ cur.size ∧ ∀ i,i < n → cur[i]? = some (f i)
section
variable {w w' : World} {b n : Nat} {f g : Nat → Value} {F : Nat → Prop}
theorem Row.lt (h : Row w b n f) : b < w.heap.size := by
 obtain ⟨c,t,hb,_,_⟩ := h
 exact (Array.getElem?_eq_some_iff.1 hb).1
theorem Row.cell (h : Row w b n f) {i : Nat} (hi : i < n) : w.cell? ⟨b,i,none⟩ = some (f i) := by
 obtain ⟨c,t,hb,_,hc⟩ := h
 simp [World.cell?,hb,hc i hi]
theorem Row.frozen (h : Row w b n f) (i : Nat) : w.frozen? ⟨b,i,none⟩ = false := by
 obtain ⟨c,t,hb,_,_⟩ := h
 simp [World.frozen?,hb]
theorem Row.congr (h : Row w b n f) (e : ∀ i,i < n → f i = g i) : Row w b n g := by
 obtain ⟨c,t,hb,hn,hc⟩ := h
 exact ⟨c,t,hb,hn,fun i hi => by rw [hc i hi,e i hi]⟩
theorem Row.of_block (h : Row w b n f) (e : w'.heap[b]? = w.heap[b]?) : Row w' b n f := by
 obtain ⟨c,t,hb,hn,hc⟩ := h
 exact ⟨c,t,e.trans hb,hn,hc⟩
theorem Row.kept (h : Row w b n f) (hk : Kept F w w') (hf : ¬ F b) : Row w' b n f := h.of_block (hk.block b h.lt hf)
theorem Row.set (h : Row w b n f) (i : Nat) (v : Value) : Row (w.setCell ⟨b,i,none⟩ v) b n (fun j => if j = i then v else f j) := by
 obtain ⟨c,t,hb,hn,hc⟩ := h
 refine ⟨c.setIfInBounds i v,t,?_,by simpa using hn,fun j hj => ?_⟩
 ·simp [World.setCell,Array.getElem?_modify,hb]
 ·rw [Array.getElem?_setIfInBounds]
  by_cases e : j = i
  ·subst e
   simp [show j < c.size by omega]
  ·rw [if_neg (fun h => e h.symm)]
   show c[j]? = some (if j = i then v else f j)
   rw [if_neg e]
   exact hc j hj
theorem Row.other (h : Row w b n f) {p : Addr} (hp : b ≠ p.block) (v : Value) : Row (w.setCell p v) b n f := h.of_block (heap_setCell_other w p b v hp)
theorem Row.of_blk {t : TypeId} {cs : List Value} (h : Blk w b t cs) (hn : cs.length = n) (hf : ∀ i,i < n → cs[i]? = some (f i)) : Row w b n f :=
 ⟨cs.toArray,t,h,by simp [hn],fun i hi => by simpa using hf i hi⟩
end
theorem kept_set (w : World) (b i : Nat) (v : Value) : Kept (fun x => x = b) w (w.setCell ⟨b,i,none⟩ v) := (Kept.refl (fun x => x = b) w).setCell (p := ⟨b,i,none⟩) (fun _ => rfl) v
end Cells
namespace Orow
open Go.RowKit
open Mem Blk Cells
def OR (w : World) (g : Nat) (t : TypeId) (s cap n : Nat) (f : Nat → Value) : Prop :=
 ∃ cur,w.heap[g]? = some (.cells cur t (0,0)) ∧ cur.size = cap * s ∧ n ≤ cap ∧ cap ≤ maxLen ∧ ∀ i,i < n * s → cur[i]? = some (f i)
section
variable {w w' : World} {g s cap n : Nat} {t : TypeId} {f f' : Nat → Value} {F : Nat → Prop}
theorem OR.row (h : OR w g t s cap n f) : Row w g (n * s) f := by
 obtain ⟨cur,hb,hs,hn,_,hc⟩ := h
 exact ⟨cur,t,hb,by rw [hs];exact Nat.mul_le_mul_right s hn,hc⟩
theorem OR.lt (h : OR w g t s cap n f) : g < w.heap.size := h.row.lt
theorem OR.cell (h : OR w g t s cap n f) {i : Nat} (hi : i < n * s) : w.cell? ⟨g,i,none⟩ = some (f i) := h.row.cell hi
theorem OR.frozen (h : OR w g t s cap n f) (i : Nat) : w.frozen? ⟨g,i,none⟩ = false := h.row.frozen i
theorem OR.le (h : OR w g t s cap n f) : n ≤ cap ∧ cap ≤ maxLen := by
 obtain ⟨cur,_,_,h1,h2,_⟩ := h
 exact ⟨h1,h2⟩
theorem OR.congr (h : OR w g t s cap n f) (e : ∀ i,i < n * s → f i = f' i) : OR w g t s cap n f' := by
 obtain ⟨cur,hb,hs,hn,hm,hc⟩ := h
 exact ⟨cur,hb,hs,hn,hm,fun i hi => by rw [hc i hi,e i hi]⟩
theorem OR.kept (h : OR w g t s cap n f) (hk : Kept F w w') (hf : ¬ F g) : OR w' g t s cap n f := by
 have hl := h.lt
 obtain ⟨cur,hb,hr⟩ := h
 exact ⟨cur,(hk.block g hl hf).trans hb,hr⟩
theorem OR.set (h : OR w g t s cap n f) (i : Nat) (v : Value) : OR (w.setCell ⟨g,i,none⟩ v) g t s cap n (fun j => if j = i then v else f j) := by
 obtain ⟨cur,hb,hs,hn,hm,hc⟩ := h
 have hle : n * s ≤ cap * s := Nat.mul_le_mul_right s hn
 refine ⟨cur.setIfInBounds i v,?_,by simpa using hs,hn,hm,fun j hj => ?_⟩
 ·simp [World.setCell,Array.getElem?_modify,hb]
 ·rw [Array.getElem?_setIfInBounds]
  by_cases e : j = i
  ·subst e
   simp [show j < cur.size by omega]
  ·rw [if_neg (fun h => e h.symm)]
   show cur[j]? = some (if j = i then v else f j)
   rw [if_neg e]
   exact hc j hj
theorem OR.other (h : OR w g t s cap n f) {p : Addr} (hp : g ≠ p.block) (v : Value) : OR (w.setCell p v) g t s cap n f := by
 obtain ⟨cur,hb,hr⟩ := h
 exact ⟨cur,(heap_setCell_other w p g v hp).trans hb,hr⟩
theorem list_of (cur : Array Value) (m : Nat) (h : ∀ i,i < m → cur[i]? = some (f i)) : cur.toList.take m = (List.range m).map f := by
 apply List.ext_getElem?
 intro i
 rw [List.getElem?_take]
 by_cases hi : i < m
 ·rw [if_pos hi,Array.getElem?_toList,h i hi]
  simp [hi]
 ·rw [if_neg hi]
  simp [Nat.le_of_not_lt hi]
theorem OR.own (h : OR w g t s cap n f) (base : Nat) (hb : base ≤ g) : w.ownsRow base t s (.slice (some ⟨g,0,none⟩) n cap) n ((List.range (n * s)).map f) := by
 obtain ⟨cur,hg,hs,hn,hm,hc⟩ := h
 exact ⟨by simp,.inr ⟨g,cap,cur,rfl,hb,hg,hn,hm,hs,list_of cur _ hc⟩⟩
theorem OR.of_own {base : Nat} {xs : List Value} (h : w.ownsRow base t s (.slice (some ⟨g,0,none⟩) n cap) n xs) (hf : ∀ i,i < n * s → xs[i]? = some (f i)) : OR w g t s cap n f ∧ base ≤ g := by
 rcases h.2 with ⟨e,_⟩ | ⟨g',cap',cur,e,hb,hg,h1,h2,h3,h4⟩
 ·cases e
 ·injection e with e1 e2 e3
  injection e1 with e1
  injection e1 with e1
  subst e1 e3
  refine ⟨⟨cur,hg,h3,h1,h2,fun i hi => ?_⟩,hb⟩
  have := hf i hi
  rw [← h4,List.getElem?_take,if_pos hi] at this
  simpa using this
theorem OR.grow (h : OR w g t s cap n f) (hk : Grow w w') : OR w' g t s cap n f := h.kept hk id
end
def OS (w : World) (G : Nat → Prop) (v : Value) (t : TypeId) (s n : Nat) (f : Nat → Value) : Prop :=
 (v = .slice none 0 0 ∧ n = 0) ∨ ∃ g cap,v = .slice (some ⟨g,0,none⟩) n cap ∧ OR w g t s cap n f ∧ G g
section
variable {w w' : World} {s n : Nat} {v : Value} {t : TypeId} {f u : Nat → Value} {F G : Nat → Prop}
theorem OS.form (h : OS w G v t s n f) (hn : 0 < n) : ∃ g cap,v = .slice (some ⟨g,0,none⟩) n cap ∧ OR w g t s cap n f ∧ G g := by
 rcases h with ⟨_,e⟩ | h
 ·omega
 ·exact h
theorem OS.kept (h : OS w G v t s n f) (hk : Kept F w w') (hF : ∀ k,G k → ¬ F k) : OS w' G v t s n f := by
 rcases h with h | ⟨g,cap,e,ho,hg⟩
 ·exact .inl h
 ·exact .inr ⟨g,cap,e,ho.kept hk (hF g hg),hg⟩
theorem OS.own (h : OS w G v t s n f) : w.ownsRow 0 t s v n ((List.range (n * s)).map f) ∧ ∀ k,v.ownBlock = some k → G k ∧ k < w.heap.size := by
 rcases h with ⟨rfl,rfl⟩ | ⟨g,cap,rfl,ho,hg⟩
 ·refine ⟨?_,fun k e => by cases e⟩
  rw [Nat.zero_mul]
  exact World.ownsRow_nil _ _ _ _
 ·refine ⟨ho.own 0 (Nat.zero_le _),fun k e => ?_⟩
  injection e with e
  subst e
  exact ⟨hg,ho.lt⟩
def joined (f u : Nat → Value) (m i : Nat) : Value := if i < m then f i else u (i - m)
theorem append_or {P : Program} (T ty : TypeId) (i : TypeInfo) (z : Value) (bytes : Nat) (hT : P.underlying T = some (.slice t)) (hi : P.info? t = some i) (hz : i.zero = some z) (hs : i.size = s) (hby : i.bytes = bytes) (hzs : z.cells.size = s) (hpos : 0 < s)
  (h : OS w G v t s n f) (hn : n ≤ 100000) (hbb : bytes ≤ 1000000) (vb : Nat) (c : Nat) (hx : ∀ j,j < s → w.cell? ⟨vb,j,none⟩ = some (u j)) (hu : ∀ j,j < s → (u j).oneCell' = true) :
  ∃ g cap w',(Builtin.append_ #[T,T] ty #[v,.slice (some ⟨vb,0,none⟩) 1 c]).run P w = .ok (.slice (some ⟨g,0,none⟩) (n + 1) cap) w' ∧ OR w' g t s cap (n + 1) (joined f u (n * s)) ∧ Kept (fun k => v.ownBlock = some k) w w' ∧ (v.ownBlock = some g ∨ g = w.heap.size) := by
 obtain ⟨hown,_⟩ := h.own
 have hl : (List.map u (List.range s)).length = 1 * s := by simp
 obtain ⟨g,cap,w',hr,h2,h3,h4,h5⟩ := run_append_lies (P := P) w T ty 0 t i z s bytes hT hi hz hs hby hzs hpos v n _ hown ⟨vb,0,none⟩ 1 c ((List.range s).map u) hl
  (fun j x hj => by
    have hjs : j < s := by
     have := (List.getElem?_eq_some_iff.1 hj).1
     simpa using this
    have e : (⟨vb,0,none⟩ : Addr).add j = ⟨vb,j,none⟩ := by unfold Addr.add;split <;> simp_all
    rw [e,hx j hjs,← hj]
    simp [hjs])
  (fun x hx => by
    obtain ⟨j,hj,rfl⟩ := List.mem_map.1 hx
    exact hu j (List.mem_range.1 hj)) (by omega) (by unfold maxLen;omega) (by
     have : (n + 1) * bytes ≤ 100001 * 1000000 := Nat.mul_le_mul (by omega) hbb
     omega) (Nat.zero_le _) _ rfl
 refine ⟨g,cap,w',hr,(OR.of_own h2 fun i hi => ?_).1,(Kept.refl _ w).grown h3 fun k hk _ => hk,h4⟩
 have hi' : i < n * s + s := by rw [Nat.add_mul,Nat.one_mul] at hi;exact hi
 unfold joined
 by_cases e : i < n * s
 ·rw [if_pos e,List.getElem?_append_left (by simpa using e)]
  simp [e]
 ·rw [if_neg e,List.getElem?_append_right (by simpa using Nat.le_of_not_lt e)]
  simp [show i - n * s < s by omega]
end
end Orow
namespace TabC
open Go.ChangeShapes Go.WideShapes Go.ChangeAt Go.RowKit
open Mem Blk Cells TabM Stages
def scell (T : Tb) (j : Nat) : Value := if j % 2 = 0 then .int .i64 (T.K (j / 2)) else .int .i64 (T.V (j / 2))
theorem scell0 (T : Tb) (p : Nat) : scell T (p * 2) = .int .i64 (T.K p) := by
 unfold scell;rw [if_pos (by omega),show p * 2 / 2 = p by omega]
theorem scell1 (T : Tb) (p : Nat) : scell T (p * 2 + 1) = .int .i64 (T.V p) := by
 unfold scell;rw [if_neg (by omega),show (p * 2 + 1) / 2 = p by omega]
def Slots (w : World) (D : Nat) (T : Tb) : Prop := Row w D (T.n * 2) (scell T)
section
variable {w w' : World} {D p : Nat} {T : Tb} {F : Nat → Prop}
theorem Slots.k (h : Slots w D T) (hp : p < T.n) : w.cell? ⟨D,p * 2,none⟩ = some (.int .i64 (T.K p)) := by rw [Row.cell h (by omega),scell0]
theorem Slots.v (h : Slots w D T) (hp : p < T.n) : w.cell? ⟨D,p * 2 + 1,none⟩ = some (.int .i64 (T.V p)) := by rw [Row.cell h (by omega),scell1]
theorem Slots.set (h : Slots w D T) (p : Nat) (k v : Int) : Slots ((w.setCell ⟨D,p * 2,none⟩ (.int .i64 k)).setCell ⟨D,p * 2 + 1,none⟩ (.int .i64 v)) D (T.set p k v) := by
 refine ((Row.set h (p * 2) _).set (p * 2 + 1) _).congr fun i hi => ?_
 by_cases e1 : i = p * 2 + 1
 ·rw [if_pos e1,e1,scell1]
  show _ = Value.int .i64 (upd T.V p v p)
  rw [upd_same]
 ·rw [if_neg e1]
  by_cases e0 : i = p * 2
  ·rw [if_pos e0,e0,scell0]
   show _ = Value.int .i64 (upd T.K p k p)
   rw [upd_same]
  ·rw [if_neg e0]
   unfold scell
   have : i / 2 ≠ p := by omega
   show _ = if i % 2 = 0 then Value.int .i64 (upd T.K p k (i / 2)) else Value.int .i64 (upd T.V p v (i / 2))
   rw [upd_other _ _ this,upd_other _ _ this]
theorem Slots.congr {U : Tb} (h : Slots w D T) (hn : T.n = U.n) (hk : ∀ j,j < T.n → T.K j = U.K j) (hv : ∀ j,j < T.n → T.V j = U.V j) : Slots w D U := by
 unfold Slots at *
 rw [← hn]
 refine Row.congr h fun i hi => ?_
 unfold scell
 rw [hk _ (by omega),hv _ (by omega)]
end
structure Raw (w : World) (d D : Nat) (T : Tb) (c : Int) : Prop where
 hd : Row w d 2 fun j => if j = 0 then .slice (some ⟨D,0,none⟩) T.n T.n else .int .i64 c
 sl : Slots w D T
 ne : d ≠ D
 pos : 1 ≤ T.n
 size : T.n ≤ 1024
def Own (d D k : Nat) : Prop := k = d ∨ k = D
section
variable {w w' : World} {d D p : Nat} {T : Tb} {c : Int} {F : Nat → Prop}
theorem Raw.c0 (h : Raw w d D T c) : w.cell? ⟨d,0,none⟩ = some (.slice (some ⟨D,0,none⟩) T.n T.n) := h.hd.cell (i := 0) (by omega)
theorem Raw.c1 (h : Raw w d D T c) : w.cell? ⟨d,1,none⟩ = some (.int .i64 c) := h.hd.cell (i := 1) (by omega)
theorem Raw.f0 (h : Raw w d D T c) (j : Nat) : w.frozen? ⟨d,j,none⟩ = false := h.hd.frozen j
theorem Raw.f1 (h : Raw w d D T c) (j : Nat) : w.frozen? ⟨D,j,none⟩ = false := Row.frozen h.sl j
theorem Raw.kept (h : Raw w d D T c) (hk : Kept F w w') (hF : ∀ k,F k → ¬ Own d D k) : Raw w' d D T c :=
 ⟨h.hd.kept hk fun x => hF _ x (.inl rfl),Row.kept h.sl hk fun x => hF _ x (.inr rfl),h.ne,h.pos,h.size⟩
theorem Raw.lt (h : Raw w d D T c) : d < w.heap.size ∧ D < w.heap.size := ⟨h.hd.lt,Row.lt h.sl⟩
theorem Raw.count (h : Raw w d D T c) (c' : Int) : Raw (w.setCell ⟨d,1,none⟩ (.int .i64 c')) d D T c' :=
 ⟨(h.hd.set 1 _).congr fun i hi => by
  by_cases e : i = 1
  ·subst e;rfl
  ·have : i = 0 := by omega
   subst this;rfl,Row.other h.sl h.ne.symm _,h.ne,h.pos,h.size⟩
theorem Raw.set (h : Raw w d D T c) (p : Nat) (k v : Int) : Raw ((w.setCell ⟨D,p * 2,none⟩ (.int .i64 k)).setCell ⟨D,p * 2 + 1,none⟩ (.int .i64 v)) d D (T.set p k v) c :=
 ⟨(h.hd.other h.ne _).other h.ne _,h.sl.set p k v,h.ne,h.pos,h.size⟩
theorem Raw.congr {U : Tb} (h : Raw w d D T c) (hn : T.n = U.n) (hk : ∀ j,j < T.n → T.K j = U.K j) (hv : ∀ j,j < T.n → T.V j = U.V j) : Raw w d D U c := by
 refine ⟨?_,h.sl.congr hn hk hv,h.ne,hn ▸ h.pos,hn ▸ h.size⟩
 rw [← hn]
 exact h.hd
def TabAt (w : World) (d D : Nat) (T : Tb) : Prop := Raw w d D T (T.cnt : Int)
theorem place_good (key : Int) (n : Nat) (h0 : 0 ≤ key) (h1 : 1 ≤ n) (h2 : n ≤ 1024) :
  Calls Tryz.prog 209 #[.int .i64 key,.int .i64 (n : Int)] w fun e w' => e = .returned (.int .i64 ((place key n : Nat) : Int)) ∧ w = w' := by
 have h1' : (1 : Int) ≤ (n : Int) := by omega
 have h2' : (n : Int) ≤ 1024 := by omega
 go_enter Tryz.func209,Tryz.ntmps209
 go_wp2
 go_ret
 exact ⟨by rw [← place_wrap h1 h2];rfl,rfl⟩
def wipe (T : Tb) (i : Nat) : Tb := ⟨T.n,fun j => if j < i then -1 else T.K j,fun j => if j < i then 0 else T.V j⟩
theorem wipe_step (T : Tb) (i : Nat) : (wipe T i).set i (-1) 0 = wipe T (i + 1) := by
 unfold wipe Tb.set
 congr 1
 ·funext j
  unfold upd
  dsimp only
  by_cases e : j = i
  ·rw [if_pos e,if_pos (by omega)]
  ·rw [if_neg e]
   by_cases e2 : j < i
   ·rw [if_pos e2,if_pos (by omega)]
   ·rw [if_neg e2,if_neg (by omega)]
 ·funext j
  unfold upd
  dsimp only
  by_cases e : j = i
  ·rw [if_pos e,if_pos (by omega)]
  ·rw [if_neg e]
   by_cases e2 : j < i
   ·rw [if_pos e2,if_pos (by omega)]
   ·rw [if_neg e2,if_neg (by omega)]
theorem fresh_any (h : Raw w d D T c) :
  Calls Tryz.prog 175 #[.pointer (some ⟨d,0,none⟩)] w fun e w' => e = .returned (.tuple #[]) ∧ Raw w' d D (fresh T.n) c ∧ Kept (Own d D) w w' := by
 have c0 := h.c0
 have hsz := h.size
 have hpos := h.pos
 have hszi : (T.n : Int) ≤ 1024 := by omega
 have H := hid h
 clear h
 go_enter Tryz.func175,Tryz.ntmps175
 go_wp2
 clear c0
 go_loopg [8] T.n (fun g i wr => ∃ j : Nat,j + g = T.n ∧ i = .int .i64 (j : Int) ∧ Raw wr d D (wipe T j) c ∧ Kept (Own d D) w wr)
 case atStart => exact ⟨0,by omega,rfl,H.out,Kept.refl _ _⟩
 case round =>
  obtain ⟨j,hg,rfl,hr,hk⟩ := hrel
  have HR := hid hr
  have HK := hid hk
  have HG := hid hg
  have c0 : wr.cell? ⟨d,0,none⟩ = some (.slice (some ⟨D,0,none⟩) T.n T.n) := hr.c0
  have f1 := hr.f1
  by_cases hj : j < T.n
  ·have hj' : (j : Int) < (T.n : Int) := by omega
   have k0 := hr.sl.k (p := j) hj
   have k1 := hr.sl.v (p := j) hj
   clear hr hk hg
   go_wp2
   go_roundg (gk - 1)
   case measure => have := HG.out;omega
   case rel =>
    refine ⟨j + 1,by have := HG.out;omega,rfl,?_,(HK.out.setCell (fun _ => .inr rfl) _).setCell (fun _ => .inr rfl) _⟩
    rw [← wipe_step]
    exact HR.out.set j (-1) 0
  ·have hj' : (T.n : Int) ≤ (j : Int) := by omega
   clear hr hk hg
   go_wp2
   go_end0
   refine ⟨rfl,HR.out.congr rfl (fun i hi => ?_) (fun i hi => ?_),HK.out⟩
   ·exact if_pos (by have : i < T.n := hi;omega)
   ·exact if_pos (by have : i < T.n := hi;omega)
end
end TabC
namespace TabD
open Go.ChangeShapes Go.WideShapes Go.ChangeAt Go.RowKit
open Mem Blk Cells TabM TabC Stages
section
variable {w : World} {d D : Nat} {T : Tb} {c key : Int}
theorem at_int (p i n : Nat) : ((p : Int) + (i : Int)) % (n : Int) = (((p + i) % n : Nat) : Int) := by rw [Int.natCast_emod,Int.natCast_add]
theorem search_any (h : Raw w d D T c) (h0 : 0 ≤ key) :
  Calls Tryz.prog 194 #[.pointer (some ⟨d,0,none⟩),.int .i64 key] w fun e w' => e = .returned (.tuple #[.int .i64 (T.search key).1,.int .i64 (T.search key).2]) ∧ w = w' := by
 have c0 := h.c0
 have hsz := h.size
 have hpos := h.pos
 have hszi : (T.n : Int) ≤ 1024 := by omega
 have hposi : 1 ≤ (T.n : Int) := by omega
 have HP := hid (fun (w : World) => place_good (w := w) key T.n h0 hpos hsz)
 have HPL := hid (place_lt (key := key) hpos)
 have hpl : ((place key T.n : Nat) : Int) < (T.n : Int) := by have := HPL.out;omega
 have HS : Hid (T.search key = scan T.K T.n (place key T.n) key T.n 0 (-1)) := rfl
 generalize T.search key = R at HS ⊢
 generalize place key T.n = p at *
 have H := hid h
 clear h
 go_enter Tryz.func194,Tryz.ntmps194
 go_wp2
 go_step3
 go_wp2_with (go_at_call 209;(with_reducible refine (HP.out _).mono ?_);rintro e w' ⟨rfl,rfl⟩)
 go_step3
 go_wp2
 clear c0
 go_loopg [5,19] T.n (fun g f i wr => ∃ (j : Nat) (fr : Int),j + g = T.n ∧ f = .int .i64 fr ∧ i = .int .i64 (j : Int) ∧ (fr = -1 ∨ (0 ≤ fr ∧ fr < 1024)) ∧ R = scan T.K T.n p key g j fr ∧ w = wr)
 case atStart => exact ⟨0,-1,by omega,rfl,rfl,.inl rfl,HS.out,rfl⟩
 case round =>
  obtain ⟨j,fr,hg,rfl,rfl,hfr,hR,rfl⟩ := hrel
  have HG := hid hg
  have HF := hid hfr
  have HR := hid hR
  have c0 := H.out.c0
  by_cases hj : j < T.n
  ·have hm := Nat.mod_lt (p + j) hpos
   have k0 := H.out.sl.k hm
   have hji : (j : Int) < (T.n : Int) := by omega
   obtain ⟨g,rfl⟩ : ∃ g,gk = g + 1 := ⟨gk - 1,by omega⟩
   rw [scan.eq_def] at hR
   dsimp only at hR
   have HA := hid (at_int p j T.n)
   have hA0 : 0 ≤ ((p : Int) + (j : Int)) % (T.n : Int) := by rw [HA.out];omega
   have hA1 : ((p : Int) + (j : Int)) % (T.n : Int) < (T.n : Int) := by rw [HA.out];omega
   by_cases e1 : T.K ((p + j) % T.n) = key
   ·rw [if_pos e1] at hR
    have e1' : (T.K ((p + j) % T.n) == key) = true := by rw [e1];exact beq_self_eq_true _
    subst hR
    clear HR hg hfr e1
    go_wp2
    try rw [Exit.noGoto_ret]
    go_ret2
    exact ⟨by rw [← HA.out];rfl,rfl⟩
   ·rw [if_neg e1] at hR
    have e1' : (T.K ((p + j) % T.n) == key) = false := beq_eq_false_iff_ne.2 e1
    by_cases e2 : T.K ((p + j) % T.n) = -1
    ·rw [if_pos e2] at hR
     have e2' : (T.K ((p + j) % T.n) == -1) = true := by rw [e2];rfl
     clear HR hg hfr e1 e2
     by_cases ef : fr < 0
     ·rw [if_pos ef] at hR
      subst hR
      go_wp2
      try rw [Exit.noGoto_ret]
      go_ret2
      exact ⟨by rw [← HA.out];rfl,rfl⟩
     ·rw [if_neg ef] at hR
      have ef' : 0 ≤ fr := by omega
      subst hR
      go_wp2
      try rw [Exit.noGoto_ret]
      go_ret2
      exact ⟨rfl,rfl⟩
    ·rw [if_neg e2] at hR
     have e2' : (T.K ((p + j) % T.n) == -1) = false := beq_eq_false_iff_ne.2 e2
     by_cases e3 : T.K ((p + j) % T.n) = -2
     ·rw [if_pos e3] at hR
      have e3' : (T.K ((p + j) % T.n) == -2) = true := by rw [e3];rfl
      clear HR hg hfr e1 e2 e3
      by_cases ef : fr < 0
      ·rw [if_pos ef] at hR
       have HR := hid hR
       clear hR
       go_wp2
       go_roundg g
       case measure => omega
       case rel => exact ⟨j + 1,_,by have := HG.out;omega,rfl,rfl,.inr ⟨by rw [HA.out];omega,by rw [HA.out];omega⟩,by rw [HR.out,HA.out],rfl⟩
      ·rw [if_neg ef] at hR
       have ef' : 0 ≤ fr := by omega
       have HR := hid hR
       clear hR
       go_wp2
       go_roundg g
       case measure => omega
       case rel => exact ⟨j + 1,_,by have := HG.out;omega,rfl,rfl,HF.out,HR.out,rfl⟩
     ·rw [if_neg e3] at hR
      have e3' : (T.K ((p + j) % T.n) == -2) = false := beq_eq_false_iff_ne.2 e3
      have HR := hid hR
      clear hR hg hfr e1 e2 e3
      go_wp2
      go_roundg g
      case measure => omega
      case rel => exact ⟨j + 1,_,by have := HG.out;omega,rfl,rfl,HF.out,HR.out,rfl⟩
  ·have hji : (T.n : Int) ≤ (j : Int) := by omega
   have hg0 : gk = 0 := by omega
   subst hg0
   have hR' : R = (-1,fr) := hR
   subst hR'
   clear HR hR hfr hg
   go_wp2
   try rw [Exit.noGoto_ret]
   go_ret2
   exact ⟨rfl,rfl⟩
end
end TabD
namespace TabO
open Go.ChangeShapes Go.WideShapes Go.ChangeAt Go.RowKit
open Mem Blk Cells TabM TabC TabD Stages
section
variable {w : World} {d D : Nat} {T : Tb} {c key : Int}
theorem find_nil : Calls Tryz.prog 185 #[.pointer none,.int .i64 key] w fun e w' => e = .returned (.int .i64 (-1)) ∧ w = w' := by
 go_enter Tryz.func185,Tryz.ntmps185
 go_wp2
 go_ret
 exact ⟨rfl,rfl⟩
theorem find_any (h : Raw w d D T c) :
  Calls Tryz.prog 185 #[.pointer (some ⟨d,0,none⟩),.int .i64 key] w fun e w' => e = .returned (.int .i64 (T.find key)) ∧ w = w' := by
 by_cases h0 : key < 0
 ·have HE : Hid (T.find key = -1) := if_pos h0
  clear h
  go_enter Tryz.func185,Tryz.ntmps185
  go_wp2
  go_ret
  exact ⟨by rw [HE.out];rfl,rfl⟩
 ·have HS := hid (search_any h (key := key) (by omega))
  have HE : Hid (T.find key = (T.search key).1) := if_neg h0
  have h0' : 0 ≤ key := by omega
  clear h h0
  generalize T.search key = R at *
  go_enter Tryz.func185,Tryz.ntmps185
  go_wp2_with (go_at_call 194;(with_reducible refine HS.out.mono ?_);rintro e w' ⟨rfl,rfl⟩)
  go_ret
  exact ⟨by rw [HE.out];rfl,rfl⟩
theorem get_nil : Calls Tryz.prog 156 #[.pointer none,.int .i64 key] w fun e w' => e = .returned (.int .i64 (-1)) ∧ w = w' := by
 have HF := hid (find_nil (w := w) (key := key))
 go_enter Tryz.func156,Tryz.ntmps156
 go_wp2_with (go_at_call 185;(with_reducible refine HF.out.mono ?_);rintro e w' ⟨rfl,rfl⟩)
 go_ret
 exact ⟨rfl,rfl⟩
theorem get_any (h : Raw w d D T c) (key : Int) :
  Calls Tryz.prog 156 #[.pointer (some ⟨d,0,none⟩),.int .i64 key] w fun e w' => e = .returned (.int .i64 (T.get key)) ∧ w = w' := by
 have hsz := h.size
 have hszi : (T.n : Int) ≤ 1024 := by omega
 have HF := hid (find_any h (key := key))
 rcases find_has (key := key) h.pos with e | ⟨j,hj,e,_,_⟩
 ·have HE : Hid (T.get key = -1) := by show _ = _;unfold Tb.get;rw [e];rfl
  rw [e] at HF
  clear h e
  go_enter Tryz.func156,Tryz.ntmps156
  go_wp2_with (go_at_call 185;(with_reducible refine HF.out.mono ?_);rintro e w' ⟨rfl,rfl⟩)
  go_ret
  exact ⟨by rw [HE.out];rfl,rfl⟩
 ·have HE : Hid (T.get key = T.V j) := by show _ = _;unfold Tb.get;rw [e,if_neg (by omega),Int.toNat_natCast]
  rw [e] at HF
  have c0 := h.c0
  have k1 := h.sl.v hj
  have hji : (j : Int) < (T.n : Int) := by omega
  clear h e
  go_enter Tryz.func156,Tryz.ntmps156
  go_wp2_with (go_at_call 185;(with_reducible refine HF.out.mono ?_);rintro e w' ⟨rfl,rfl⟩)
  go_ret
  exact ⟨by rw [HE.out];rfl,rfl⟩
def TabPost (d D : Nat) (w : World) (v : Int) (U : Tb) (e : Ending) (w' : World) : Prop := e = .returned (.int .i64 v) ∧ TabAt w' d D U ∧ Kept (Own d D) w w'
theorem put_any (h : TabAt w d D T) (key v : Int) :
  Calls Tryz.prog 179 #[.pointer (some ⟨d,0,none⟩),.int .i64 key,.int .i64 v] w (TabPost d D w (T.putC key) (T.put key v)) := by
 have hsz := h.size
 have hszi : (T.n : Int) ≤ 1024 := by omega
 by_cases h0 : key < 0
 ·have HE : Hid (T.putC key = 1) := if_pos h0
  have HE2 : Hid (T.put key v = T) := by show _ = _;unfold Tb.put;rw [HE.out];rfl
  have H := hid h
  clear h
  go_enter Tryz.func179,Tryz.ntmps179
  go_wp2
  go_ret
  rw [HE.out,HE2.out]
  exact ⟨rfl,H.out,Kept.refl _ _⟩
 have h0' : 0 ≤ key := by omega
 have HS := hid (search_any h (key := key) h0')
 rcases search_has (key := key) h.pos with e1 | ⟨j,hj,e1,_⟩
 ·rcases search_free (key := key) h.pos with e2 | ⟨j,hj,e2,hK⟩
  ·have HE : Hid (T.putC key = 8) := by show _ = _;unfold Tb.putC;rw [if_neg h0,e1,if_neg (by omega),e2];rfl
   have HE2 : Hid (T.put key v = T) := by show _ = _;unfold Tb.put;rw [HE.out];rfl
   rw [e1,e2] at HS
   have H := hid h
   clear h e1 e2 h0
   go_enter Tryz.func179,Tryz.ntmps179
   go_wp2_with (go_at_call 194;(with_reducible refine HS.out.mono ?_);rintro e w' ⟨rfl,rfl⟩)
   go_ret
   rw [HE.out,HE2.out]
   exact ⟨rfl,H.out,Kept.refl _ _⟩
  ·have HE : Hid (T.putC key = 0) := by show _ = _;unfold Tb.putC;rw [if_neg h0,e1,if_neg (by omega),e2,if_neg (by omega)]
   have HE2 : Hid (T.put key v = T.set j key v) := by show _ = _;unfold Tb.put;rw [HE.out,e2,Int.toNat_natCast];rfl
   have HC := hid (cnt_set_on (v := v) hj hK h0')
   rw [e1,e2] at HS
   have H := hid h
   have c0 := h.c0
   have f1 := h.f1
   have k0 := h.sl.k hj
   have k1 := h.sl.v hj
   have hji : (j : Int) < (T.n : Int) := by omega
   have HCL : Hid (T.cnt ≤ T.n) := cnt_le _ _
   have hcz : ((T.cnt : Nat) : Int) ≤ 1024 := by have := HCL.out;omega
   clear h e1 e2 h0
   go_enter Tryz.func179,Tryz.ntmps179
   go_upto_region 11 with (go_at_call 194;(with_reducible refine HS.out.mono ?_);rintro e w' ⟨rfl,rfl⟩)
   have H1 : Hid (Raw ((w.setCell ⟨D,j * 2,none⟩ (.int .i64 key)).setCell ⟨D,j * 2 + 1,none⟩ (.int .i64 v)) d D (T.set j key v) (T.cnt : Int)) := Raw.set H.out j key v
   have HK1 : Hid (Kept (Own d D) w ((w.setCell ⟨D,j * 2,none⟩ (.int .i64 key)).setCell ⟨D,j * 2 + 1,none⟩ (.int .i64 v))) := ((Kept.refl _ w).setCell (fun _ => .inr rfl) _).setCell (fun _ => .inr rfl) _
   generalize (w.setCell ⟨D,j * 2,none⟩ (.int .i64 key)).setCell ⟨D,j * 2 + 1,none⟩ (.int .i64 v) = w1 at H1 HK1 ⊢
   clear c0 f1 k0 k1 H
   have c1 := H1.out.c1
   have f0 := H1.out.f0
   go_wp2
   go_ret
   rw [HE.out,HE2.out]
   refine ⟨rfl,?_,HK1.out.setCell (fun _ => .inl rfl) _⟩
   have := H1.out.count ((T.cnt : Int) + 1)
   unfold TabAt
   rw [HC.out]
   exact this
 ·have HE : Hid (T.putC key = 13) := by show _ = _;unfold Tb.putC;rw [if_neg h0,e1,if_pos (by simp)]
  have HE2 : Hid (T.put key v = T) := by show _ = _;unfold Tb.put;rw [HE.out];rfl
  rw [e1] at HS
  have H := hid h
  clear h e1 h0
  go_enter Tryz.func179,Tryz.ntmps179
  go_wp2_with (go_at_call 194;(with_reducible refine HS.out.mono ?_);rintro e w' ⟨rfl,rfl⟩)
  go_ret
  rw [HE.out,HE2.out]
  exact ⟨rfl,H.out,Kept.refl _ _⟩
theorem out_any (h : TabAt w d D T) (key : Int) :
  Calls Tryz.prog 188 #[.pointer (some ⟨d,0,none⟩),.int .i64 key] w (TabPost d D w (T.get key) (T.out key)) := by
 have hsz := h.size
 have hszi : (T.n : Int) ≤ 1024 := by omega
 have HF := hid (find_any h (key := key))
 rcases find_has (key := key) h.pos with e | ⟨j,hj,e,hK,h0⟩
 ·have HE : Hid (T.get key = -1) := by show _ = _;unfold Tb.get;rw [e];rfl
  have HE2 : Hid (T.out key = T) := by show _ = _;unfold Tb.out;rw [e];rfl
  rw [e] at HF
  have H := hid h
  clear h e
  go_enter Tryz.func188,Tryz.ntmps188
  go_wp2_with (go_at_call 185;(with_reducible refine HF.out.mono ?_);rintro e w' ⟨rfl,rfl⟩)
  go_ret
  rw [HE.out,HE2.out]
  exact ⟨rfl,H.out,Kept.refl _ _⟩
 ·have HE : Hid (T.get key = T.V j) := by show _ = _;unfold Tb.get;rw [e,if_neg (by omega),Int.toNat_natCast]
  have HE2 : Hid (T.out key = if (T.set j (-2) 0).cnt = 0 then fresh T.n else T.set j (-2) 0) := by show _ = _;unfold Tb.out;rw [e,if_neg (by omega),Int.toNat_natCast]
  have HC := hid (cnt_set_off (k := -2) (v := 0) hj (by omega) (by omega))
  rw [e] at HF
  have H := hid h
  have c0 := h.c0
  have f1 := h.f1
  have k0 := h.sl.k hj
  have k1 := h.sl.v hj
  have hji : (j : Int) < (T.n : Int) := by omega
  have HCL : Hid (T.cnt ≤ T.n) := cnt_le _ _
  have hcz : ((T.cnt : Nat) : Int) ≤ 1024 := by have := HCL.out;omega
  have hcp : 1 ≤ ((T.cnt : Nat) : Int) := by have := HC.out;omega
  clear h e h0
  go_enter Tryz.func188,Tryz.ntmps188
  go_upto_region 6 with (go_at_call 185;(with_reducible refine HF.out.mono ?_);rintro e w' ⟨rfl,rfl⟩)
  have H1 : Hid (Raw ((w.setCell ⟨D,j * 2,none⟩ (.int .i64 (-2))).setCell ⟨D,j * 2 + 1,none⟩ (.int .i64 0)) d D (T.set j (-2) 0) (T.cnt : Int)) := Raw.set H.out j (-2) 0
  have HK1 : Hid (Kept (Own d D) w ((w.setCell ⟨D,j * 2,none⟩ (.int .i64 (-2))).setCell ⟨D,j * 2 + 1,none⟩ (.int .i64 0))) := ((Kept.refl _ w).setCell (fun _ => .inr rfl) _).setCell (fun _ => .inr rfl) _
  generalize (w.setCell ⟨D,j * 2,none⟩ (.int .i64 (-2))).setCell ⟨D,j * 2 + 1,none⟩ (.int .i64 0) = w1 at H1 HK1 ⊢
  clear c0 f1 k0 k1 H
  have c1 := H1.out.c1
  have f0 := H1.out.f0
  go_upto_region 7 with (fail)
  have H2 : Hid (Raw (w1.setCell ⟨d,1,none⟩ (.int .i64 ((T.cnt : Int) - 1))) d D (T.set j (-2) 0) ((T.set j (-2) 0).cnt : Int)) := by
   have := H1.out.count ((T.cnt : Int) - 1)
   rw [show ((T.set j (-2) 0).cnt : Int) = (T.cnt : Int) - 1 by have := HC.out;omega]
   exact this
  have HK2 : Hid (Kept (Own d D) w (w1.setCell ⟨d,1,none⟩ (.int .i64 ((T.cnt : Int) - 1)))) := HK1.out.setCell (fun _ => .inl rfl) _
  generalize w1.setCell ⟨d,1,none⟩ (.int .i64 ((T.cnt : Int) - 1)) = w2 at H2 HK2 ⊢
  clear c1 f0 H1 HK1
  have c1 := H2.out.c1
  by_cases hz : (T.set j (-2) 0).cnt = 0
  ·rw [if_pos hz] at HE2
   have HFR := hid (fresh_any H2.out)
   rw [hz] at c1
   simp only [Int.cast_ofNat_Int] at c1
   go_wp2_with (go_at_call 175;(with_reducible refine HFR.out.mono ?_);rintro e w' ⟨rfl,hr,hk⟩;have H3 := hid hr;have HK3 := hid hk;clear hr hk)
   go_ret
   rw [HE.out,HE2.out]
   refine ⟨rfl,?_,HK2.out.trans HK3.out⟩
   unfold TabAt
   rw [cnt_fresh,← hz]
   exact H3.out
  ·rw [if_neg hz] at HE2
   have hzi : ((((T.set j (-2) 0).cnt : Nat) : Int) == 0) = false := beq_eq_false_iff_ne.2 (by omega)
   go_wp2
   go_ret
   rw [HE.out,HE2.out]
   exact ⟨rfl,H2.out,HK2.out⟩
theorem infoS : (Tryz.prog.info? 177).map (fun i => (i.zero,i.size,i.bytes)) = some (some (.agg #[.int .i64 0,.int .i64 0]),2,16) := by kernel_rfl
theorem made2 (w : World) (n : Nat) (hn : n ≤ 1024) : (Instr.makeSlice 171 (.int .i64 (n : Int)) (.int .i64 (n : Int))).run Tryz.prog w = .ok (.slice (some ⟨w.heap.size,0,none⟩) n n) (w.alloc (.cells (madeCells #[.int .i64 0,.int .i64 0] (n * 2)) 177)) := by
 obtain ⟨i,hi,hz,hs,hb⟩ := info_parts infoS
 have := run_make (P := Tryz.prog) w 171 177 i _ Tryz.underlying171 hi hz .i64 .i64 (n : Int) (n : Int) (by omega) (Int.le_refl _) (by rw [hb];omega) (by omega)
 rw [hs,Int.toNat_natCast] at this
 exact this
def NewPost (n : Nat) (w : World) (e : Ending) (w' : World) : Prop :=
 ∃ d D,e = .returned (.pointer (some ⟨d,0,none⟩)) ∧ TabAt w' d D (fresh n) ∧ w.heap.size ≤ d ∧ w.heap.size ≤ D ∧ Grow w w'
theorem new_good (n : Nat) (h1 : 1 ≤ n) (hn : n ≤ 1024) : Calls Tryz.prog 141 #[.int .i64 (n : Int)] w (NewPost n w) := by
 have hn' : (n : Int) ≤ 1024 := by omega
 have h1' : 1 ≤ (n : Int) := by omega
 have km := fun (w : World) => made2 w n hn
 go_enter Tryz.func141,Tryz.ntmps141
 go_upto_region 4 with (fail)
 clear km
 have hb := Blk.new (w.alloc (.cells (madeCells #[.int .i64 0,.int .i64 0] (n * 2)) 177)) 173 [.slice (some ⟨w.heap.size,0,none⟩) n n,.int .i64 0]
 have e1 : (w.alloc (.cells (madeCells #[.int .i64 0,.int .i64 0] (n * 2)) 177)).heap.size = w.heap.size + 1 := by simp
 rw [e1] at hb
 have hr : Slots (w.alloc (.cells (madeCells #[.int .i64 0,.int .i64 0] (n * 2)) 177)) w.heap.size ⟨n,fun _ => 0,fun _ => 0⟩ :=
  ⟨_,_,heap_alloc_new w _,by simp [size_madeCells],fun i hi => by
   have hi : i < n * 2 := hi
   simp only [madeCells,Array.getElem?_map,Array.getElem?_range,hi,if_pos,Option.map_some]
   congr 1
   unfold scell
   have : i % 2 = 0 ∨ i % 2 = 1 := by omega
   rcases this with e | e <;> simp [e]⟩
 have HR : Hid (Raw ((w.alloc (.cells (madeCells #[.int .i64 0,.int .i64 0] (n * 2)) 177)).alloc (.cells #[.slice (some ⟨w.heap.size,0,none⟩) n n,.int .i64 0] 173)) (w.heap.size + 1) w.heap.size ⟨n,fun _ => 0,fun _ => 0⟩ 0) :=
  ⟨Row.of_blk hb rfl (fun i hi => by
   have : i = 0 ∨ i = 1 := by omega
   rcases this with rfl | rfl <;> rfl),Row.kept hr (F := fun _ => False) ((Kept.refl _ _).alloc _) id,by omega,h1,hn⟩
 have HG : Hid (Grow w ((w.alloc (.cells (madeCells #[.int .i64 0,.int .i64 0] (n * 2)) 177)).alloc (.cells #[.slice (some ⟨w.heap.size,0,none⟩) n n,.int .i64 0] 173))) := ((Kept.refl _ _).alloc _).alloc _
 clear hb hr e1
 generalize (w.alloc (.cells (madeCells #[.int .i64 0,.int .i64 0] (n * 2)) 177)).alloc (.cells #[.slice (some ⟨w.heap.size,0,none⟩) n n,.int .i64 0] 173) = wx at HR HG ⊢
 have HFR := hid (fresh_any HR.out)
 go_wp2_with (go_at_call 175;(with_reducible refine HFR.out.mono ?_);rintro e w' ⟨rfl,hr,hk⟩;have H3 := hid hr;have HK3 := hid hk;clear hr hk)
 go_ret
 refine ⟨_,_,rfl,?_,Nat.le_succ _,Nat.le_refl _,HG.out.then HK3.out fun k hk hF => ?_⟩
 ·unfold TabAt
  rw [cnt_fresh]
  exact H3.out
 ·rcases hF with hF | hF <;> omega
def cellsOf (T : Tb) : List Value := (List.range (T.n * 2)).map (scell T)
end
end TabO
namespace ArC
open Go.ChangeShapes Go.WideShapes Go.ChangeAt Go.RowKit
open Mem Blk Cells Orow TabM ArM Stages
def fpart (x : Fr) (k : Nat) : Value := if k = 0 then .int .i64 x.st else if k = 1 then .int .i64 x.pg else if k = 2 then .int .i64 x.pn else if k = 3 then .int .i64 0 else .bool x.di
def fcell (F : Nat → Fr) (j : Nat) : Value := fpart (F (j / 5)) (j % 5)
theorem fcell_at (F : Nat → Fr) (p k : Nat) (hk : k < 5) : fcell F (p * 5 + k) = fpart (F p) k := by
 unfold fcell
 rw [show (p * 5 + k) / 5 = p by omega,show (p * 5 + k) % 5 = k by omega]
theorem fcell_0 (F : Nat → Fr) (p : Nat) : fcell F (p * 5) = .int .i64 (F p).st := by
 unfold fcell
 rw [show p * 5 / 5 = p by omega,show p * 5 % 5 = 0 by omega];rfl
theorem fcell_1 (F : Nat → Fr) (p : Nat) : fcell F (p * 5 + 1) = .int .i64 (F p).pg := fcell_at F p 1 (by omega)
theorem fcell_2 (F : Nat → Fr) (p : Nat) : fcell F (p * 5 + 2) = .int .i64 (F p).pn := fcell_at F p 2 (by omega)
theorem fcell_3 (F : Nat → Fr) (p : Nat) : fcell F (p * 5 + 3) = .int .i64 0 := fcell_at F p 3 (by omega)
theorem fcell_4 (F : Nat → Fr) (p : Nat) : fcell F (p * 5 + 4) = .bool (F p).di := fcell_at F p 4 (by omega)
theorem fset {F : Nat → Fr} {f k : Nat} {v : Fr} {x : Value} (hk : k < 5) (hx : x = fpart v k) (hs : ∀ q,q < 5 → q ≠ k → fpart v q = fpart (F f) q) (i : Nat) : (if i = f * 5 + k then x else fcell F i) = fcell (upd F f v) i := by
 by_cases e : i = f * 5 + k
 ·rw [if_pos e,e,fcell_at _ _ _ hk,upd_same,hx]
 ·rw [if_neg e]
  unfold fcell
  by_cases e2 : i / 5 = f
  ·rw [e2,upd_same,hs _ (by omega) (by omega)]
  ·rw [upd_other _ _ e2]
abbrev FR (w : World) (g cap n : Nat) (F : Nat → Fr) : Prop := OR w g 36 5 cap n (fcell F)
section
variable {w : World} {g cap n f : Nat} {F : Nat → Fr} {v : Fr}
theorem FR.c0 (h : FR w g cap n F) (hf : f < n) : w.cell? ⟨g,f * 5,none⟩ = some (.int .i64 (F f).st) := by rw [OR.cell h (by omega),fcell_0]
theorem FR.c1 (h : FR w g cap n F) (hf : f < n) : w.cell? ⟨g,f * 5 + 1,none⟩ = some (.int .i64 (F f).pg) := by rw [OR.cell h (by omega),fcell_1]
theorem FR.c2 (h : FR w g cap n F) (hf : f < n) : w.cell? ⟨g,f * 5 + 2,none⟩ = some (.int .i64 (F f).pn) := by rw [OR.cell h (by omega),fcell_2]
theorem FR.c3 (h : FR w g cap n F) (hf : f < n) : w.cell? ⟨g,f * 5 + 3,none⟩ = some (.int .i64 0) := by rw [OR.cell h (by omega),fcell_3]
theorem FR.c4 (h : FR w g cap n F) (hf : f < n) : w.cell? ⟨g,f * 5 + 4,none⟩ = some (.bool (F f).di) := by rw [OR.cell h (by omega),fcell_4]
theorem four {P : Nat → Prop} (h0 : P 0) (h1 : P 1) (h2 : P 2) (h3 : P 3) (h4 : P 4) (q : Nat) (hq : q < 5) : P q := by
 have : q = 0 ∨ q = 1 ∨ q = 2 ∨ q = 3 ∨ q = 4 := by omega
 rcases this with rfl | rfl | rfl | rfl | rfl
 ·exact h0
 ·exact h1
 ·exact h2
 ·exact h3
 ·exact h4
theorem FR.set2 (h : FR w g cap n F) (f : Nat) (x : Int) : FR (w.setCell ⟨g,f * 5 + 2,none⟩ (.int .i64 x)) g cap n (upd F f ⟨(F f).st,(F f).pg,x,(F f).di⟩) :=
 (OR.set h (f * 5 + 2) _).congr fun i _ => fset (F := F) (f := f) (k := 2) (v := ⟨(F f).st,(F f).pg,x,(F f).di⟩) (by omega) rfl (fun q hq => four (P := fun q => q ≠ 2 → fpart ⟨(F f).st,(F f).pg,x,(F f).di⟩ q = fpart (F f) q) (fun _ => rfl) (fun _ => rfl) (fun h => absurd rfl h) (fun _ => rfl) (fun _ => rfl) q hq) i
theorem FR.set4 (h : FR w g cap n F) (f : Nat) (x : Bool) : FR (w.setCell ⟨g,f * 5 + 4,none⟩ (.bool x)) g cap n (upd F f ⟨(F f).st,(F f).pg,(F f).pn,x⟩) :=
 (OR.set h (f * 5 + 4) _).congr fun i _ => fset (F := F) (f := f) (k := 4) (v := ⟨(F f).st,(F f).pg,(F f).pn,x⟩) (by omega) rfl (fun q hq => four (P := fun q => q ≠ 4 → fpart ⟨(F f).st,(F f).pg,(F f).pn,x⟩ q = fpart (F f) q) (fun _ => rfl) (fun _ => rfl) (fun _ => rfl) (fun _ => rfl) (fun h => absurd rfl h) q hq) i
def setF (w : World) (g f : Nat) (v : Fr) : World :=
 ((((w.setCell ⟨g,f * 5,none⟩ (.int .i64 v.st)).setCell ⟨g,f * 5 + 1,none⟩ (.int .i64 v.pg)).setCell ⟨g,f * 5 + 2,none⟩ (.int .i64 v.pn)).setCell ⟨g,f * 5 + 3,none⟩ (.int .i64 0)).setCell ⟨g,f * 5 + 4,none⟩ (.bool v.di)
theorem FR.setF (h : FR w g cap n F) (f : Nat) (v : Fr) : FR (setF w g f v) g cap n (upd F f v) := by
 refine (((((OR.set h (f * 5) _).set (f * 5 + 1) _).set (f * 5 + 2) _).set (f * 5 + 3) _).set (f * 5 + 4) _).congr fun i _ => ?_
 by_cases e2 : i / 5 = f
 ·have : i = f * 5 ∨ i = f * 5 + 1 ∨ i = f * 5 + 2 ∨ i = f * 5 + 3 ∨ i = f * 5 + 4 := by omega
  rcases this with rfl | rfl | rfl | rfl | rfl
  ·rw [if_neg (by omega),if_neg (by omega),if_neg (by omega),if_neg (by omega),if_pos rfl,fcell_0,upd_same]
  ·rw [if_neg (by omega),if_neg (by omega),if_neg (by omega),if_pos rfl,fcell_1,upd_same]
  ·rw [if_neg (by omega),if_neg (by omega),if_pos rfl,fcell_2,upd_same]
  ·rw [if_neg (by omega),if_pos rfl,fcell_3]
  ·rw [if_pos rfl,fcell_4,upd_same]
 ·rw [if_neg (by omega),if_neg (by omega),if_neg (by omega),if_neg (by omega),if_neg (by omega)]
  unfold fcell
  rw [upd_other _ _ e2]
theorem kept_setF (w : World) (g f : Nat) (v : Fr) : Kept (· = g) w (ArC.setF w g f v) :=
 ((((kept_set w g _ _).trans (kept_set _ g _ _)).trans (kept_set _ g _ _)).trans (kept_set _ g _ _)).trans (kept_set _ g _ _)
end
def acell (v : Value) (B : Nat → List Int) (pl pt : Value) (j : Nat) : Value := if j = 0 then v else if j ≤ 512 then .int .u8 ((B ((j - 1) / 16)).getD ((j - 1) % 16) 0) else if j = 513 then pl else pt
structure Apart (d g dl Dl dt Dt : Nat) : Prop where
 dg : d ≠ g
 ddl : d ≠ dl
 dDl : d ≠ Dl
 ddt : d ≠ dt
 dDt : d ≠ Dt
 gdl : g ≠ dl
 gDl : g ≠ Dl
 gdt : g ≠ dt
 gDt : g ≠ Dt
 ldt : dl ≠ dt
 lDt : dl ≠ Dt
 Ldt : Dl ≠ dt
 LDt : Dl ≠ Dt
structure Big (w : World) (G : Nat → Prop) (d g cap dl Dl dt Dt : Nat) (T : Tb) (a : Ar) : Prop where
 hd : Row w d 515 (acell (.slice (some ⟨g,0,none⟩) a.n cap) a.B (.pointer (some ⟨dl,0,none⟩)) (.pointer (some ⟨dt,0,none⟩)))
 fr : FR w g cap a.n a.F
 li : Rowed.ListAt w dl Dl 32 a.Q
 ta : TabC.TabAt w dt Dt T
 ts : Tabs T a
 ne : Apart d g dl Dl dt Dt
 inG : G d ∧ G g ∧ G dl ∧ G Dl ∧ G dt ∧ G Dt
 pos : 0 < a.n
structure Core (w : World) (G : Nat → Prop) (d g cap dl Dl dt Dt : Nat) (T : Tb) (a : Ar) : Prop where
 hd : Row w d 515 (acell (.slice (some ⟨g,0,none⟩) a.n cap) a.B (.pointer (some ⟨dl,0,none⟩)) (.pointer (some ⟨dt,0,none⟩)))
 fr : FR w g cap a.n a.F
 li : Rowed.ListAt w dl Dl 32 a.Q
 ta : TabC.TabAt w dt Dt T
 ne : Apart d g dl Dl dt Dt
 inG : G d ∧ G g ∧ G dl ∧ G Dl ∧ G dt ∧ G Dt
structure Nil (w : World) (G : Nat → Prop) (d : Nat) (a : Ar) : Prop where
 hd : Row w d 515 (acell (.slice none 0 0) a.B (.pointer none) (.pointer none))
 inG : G d
 zero : a.n = 0
structure ArAt (w : World) (G : Nat → Prop) (d : Nat) (a : Ar) : Prop where
 good : ArM.Good a
 mem : Nil w G d a ∨ ∃ g cap dl Dl dt Dt T,Big w G d g cap dl Dl dt Dt T a
section
variable {w w' : World} {G H F : Nat → Prop} {d g cap dl Dl dt Dt : Nat} {T : Tb} {a : Ar}
theorem Big.lt (h : Big w G d g cap dl Dl dt Dt T a) : d < w.heap.size ∧ g < w.heap.size ∧ dl < w.heap.size ∧ Dl < w.heap.size ∧ dt < w.heap.size ∧ Dt < w.heap.size :=
 ⟨h.hd.lt,OR.lt h.fr,h.li.lt.1,h.li.lt.2,TabC.Raw.lt h.ta |>.1,TabC.Raw.lt h.ta |>.2⟩
theorem Big.kept (h : Big w G d g cap dl Dl dt Dt T a) (hk : Kept F w w') (hF : ∀ k,G k → ¬ F k) : Big w' G d g cap dl Dl dt Dt T a := by
 obtain ⟨i0,i1,i2,i3,i4,i5⟩ := h.inG
 exact ⟨h.hd.kept hk (hF _ i0),OR.kept h.fr hk (hF _ i1),h.li.kept hk fun k x y => by
   rcases y with rfl | rfl
   ·exact hF _ i2 x
   ·exact hF _ i3 x,TabC.Raw.kept h.ta hk fun k x y => by
   rcases y with rfl | rfl
   ·exact hF _ i4 x
   ·exact hF _ i5 x,h.ts,h.ne,h.inG,h.pos⟩
theorem Big.mono (h : Big w G d g cap dl Dl dt Dt T a) (hH : ∀ k,k < w.heap.size → G k → H k) : Big w H d g cap dl Dl dt Dt T a := by
 obtain ⟨i0,i1,i2,i3,i4,i5⟩ := h.inG
 obtain ⟨l0,l1,l2,l3,l4,l5⟩ := h.lt
 exact ⟨h.hd,h.fr,h.li,h.ta,h.ts,h.ne,⟨hH _ l0 i0,hH _ l1 i1,hH _ l2 i2,hH _ l3 i3,hH _ l4 i4,hH _ l5 i5⟩,h.pos⟩
theorem Nil.kept (h : Nil w G d a) (hk : Kept F w w') (hF : ∀ k,G k → ¬ F k) : Nil w' G d a := ⟨h.hd.kept hk (hF _ h.inG),h.inG,h.zero⟩
theorem ArAt.kept (h : ArAt w G d a) (hk : Kept F w w') (hF : ∀ k,G k → ¬ F k) : ArAt w' G d a := by
 refine ⟨h.good,?_⟩
 rcases h.mem with h | ⟨g,cap,dl,Dl,dt,Dt,T,h⟩
 ·exact .inl (h.kept hk hF)
 ·exact .inr ⟨g,cap,dl,Dl,dt,Dt,T,h.kept hk hF⟩
theorem ArAt.mono (h : ArAt w G d a) (hH : ∀ k,k < w.heap.size → G k → H k) : ArAt w H d a := by
 refine ⟨h.good,?_⟩
 rcases h.mem with h | ⟨g,cap,dl,Dl,dt,Dt,T,h⟩
 ·exact .inl ⟨h.hd,hH _ h.hd.lt h.inG,h.zero⟩
 ·exact .inr ⟨g,cap,dl,Dl,dt,Dt,T,h.mono hH⟩
theorem Big.h0 (h : Big w G d g cap dl Dl dt Dt T a) : w.cell? ⟨d,0,none⟩ = some (.slice (some ⟨g,0,none⟩) a.n cap) := h.hd.cell (i := 0) (by omega)
theorem Big.h1 (h : Big w G d g cap dl Dl dt Dt T a) : w.cell? ⟨d,513,none⟩ = some (.pointer (some ⟨dl,0,none⟩)) := h.hd.cell (i := 513) (by omega)
theorem Big.h2 (h : Big w G d g cap dl Dl dt Dt T a) : w.cell? ⟨d,514,none⟩ = some (.pointer (some ⟨dt,0,none⟩)) := h.hd.cell (i := 514) (by omega)
theorem Nil.h0 (h : Nil w G d a) : w.cell? ⟨d,0,none⟩ = some (.slice none 0 0) := h.hd.cell (i := 0) (by omega)
theorem Nil.h1 (h : Nil w G d a) : w.cell? ⟨d,513,none⟩ = some (.pointer none) := h.hd.cell (i := 513) (by omega)
theorem Nil.h2 (h : Nil w G d a) : w.cell? ⟨d,514,none⟩ = some (.pointer none) := h.hd.cell (i := 514) (by omega)
theorem Big.core (h : Big w G d g cap dl Dl dt Dt T a) : Core w G d g cap dl Dl dt Dt T a := ⟨h.hd,h.fr,h.li,h.ta,h.ne,h.inG⟩
theorem Core.big (h : Core w G d g cap dl Dl dt Dt T a) (hs : Tabs T a) (hp : 0 < a.n) : Big w G d g cap dl Dl dt Dt T a := ⟨h.hd,h.fr,h.li,h.ta,hs,h.ne,h.inG,hp⟩
theorem Core.h0 (h : Core w G d g cap dl Dl dt Dt T a) : w.cell? ⟨d,0,none⟩ = some (.slice (some ⟨g,0,none⟩) a.n cap) := h.hd.cell (i := 0) (by omega)
theorem Core.h1 (h : Core w G d g cap dl Dl dt Dt T a) : w.cell? ⟨d,513,none⟩ = some (.pointer (some ⟨dl,0,none⟩)) := h.hd.cell (i := 513) (by omega)
theorem Core.h2 (h : Core w G d g cap dl Dl dt Dt T a) : w.cell? ⟨d,514,none⟩ = some (.pointer (some ⟨dt,0,none⟩)) := h.hd.cell (i := 514) (by omega)
theorem Core.lst {Q' : List Nat} (h : Core w G d g cap dl Dl dt Dt T a) (hl : Rowed.ListAt w' dl Dl 32 Q') (hk : Kept (Rowed.Own dl Dl) w w') : Core w' G d g cap dl Dl dt Dt T ⟨a.n,a.F,a.B,Q'⟩ := by
 refine ⟨h.hd.kept hk fun x => ?_,OR.kept h.fr hk fun x => ?_,hl,TabC.Raw.kept h.ta hk fun k x y => ?_,h.ne,h.inG⟩
 ·rcases x with x | x
  ·exact h.ne.ddl x
  ·exact h.ne.dDl x
 ·rcases x with x | x
  ·exact h.ne.gdl x
  ·exact h.ne.gDl x
 ·rcases x with rfl | rfl
  ·rcases y with y | y
   ·exact h.ne.ldt y
   ·exact h.ne.lDt y
  ·rcases y with y | y
   ·exact h.ne.Ldt y
   ·exact h.ne.LDt y
theorem Core.tab {T' : Tb} (h : Core w G d g cap dl Dl dt Dt T a) (ht : TabC.TabAt w' dt Dt T') (hk : Kept (TabC.Own dt Dt) w w') : Core w' G d g cap dl Dl dt Dt T' a := by
 refine ⟨h.hd.kept hk fun x => ?_,OR.kept h.fr hk fun x => ?_,h.li.kept hk fun k x y => ?_,ht,h.ne,h.inG⟩
 ·rcases x with x | x
  ·exact h.ne.ddt x
  ·exact h.ne.dDt x
 ·rcases x with x | x
  ·exact h.ne.gdt x
  ·exact h.ne.gDt x
 ·rcases x with rfl | rfl
  ·rcases y with y | y
   ·exact h.ne.ldt y.symm
   ·exact h.ne.Ldt y.symm
  ·rcases y with y | y
   ·exact h.ne.lDt y.symm
   ·exact h.ne.LDt y.symm
theorem Core.frm {F' : Nat → Fr} (h : Core w G d g cap dl Dl dt Dt T a) (hf : FR w' g cap a.n F') (hk : Kept (· = g) w w') : Core w' G d g cap dl Dl dt Dt T ⟨a.n,F',a.B,a.Q⟩ := by
 refine ⟨h.hd.kept hk h.ne.dg,hf,h.li.kept hk fun k x y => ?_,TabC.Raw.kept h.ta hk fun k x y => ?_,h.ne,h.inG⟩
 ·subst x
  rcases y with y | y
  ·exact h.ne.gdl y
  ·exact h.ne.gDl y
 ·subst x
  rcases y with y | y
  ·exact h.ne.gdt y
  ·exact h.ne.gDt y
theorem Core.hdr {B' : Nat → List Int} (h : Core w G d g cap dl Dl dt Dt T a) (hf : Row w' d 515 (acell (.slice (some ⟨g,0,none⟩) a.n cap) B' (.pointer (some ⟨dl,0,none⟩)) (.pointer (some ⟨dt,0,none⟩)))) (hk : Kept (· = d) w w') : Core w' G d g cap dl Dl dt Dt T ⟨a.n,a.F,B',a.Q⟩ := by
 refine ⟨hf,OR.kept h.fr hk h.ne.dg.symm,h.li.kept hk fun k x y => ?_,TabC.Raw.kept h.ta hk fun k x y => ?_,h.ne,h.inG⟩
 ·subst x
  rcases y with y | y
  ·exact h.ne.ddl y
  ·exact h.ne.dDl y
 ·subst x
  rcases y with y | y
  ·exact h.ne.ddt y
  ·exact h.ne.dDt y
theorem Core.kl (h : Core w G d g cap dl Dl dt Dt T a) {u u' : World} (hk : Kept (Rowed.Own dl Dl) u u') : Kept G u u' := hk.mono fun k _ x => by
 rcases x with rfl | rfl
 ·exact h.inG.2.2.1
 ·exact h.inG.2.2.2.1
theorem Core.kt (h : Core w G d g cap dl Dl dt Dt T a) {u u' : World} (hk : Kept (TabC.Own dt Dt) u u') : Kept G u u' := hk.mono fun k _ x => by
 rcases x with rfl | rfl
 ·exact h.inG.2.2.2.2.1
 ·exact h.inG.2.2.2.2.2
theorem Core.kg (h : Core w G d g cap dl Dl dt Dt T a) {u u' : World} (hk : Kept (· = g) u u') : Kept G u u' := hk.mono fun k _ x => by subst x;exact h.inG.2.1
theorem Core.kd (h : Core w G d g cap dl Dl dt Dt T a) {u u' : World} (hk : Kept (· = d) u u') : Kept G u u' := hk.mono fun k _ x => by subst x;exact h.inG.1
def APost (G : Nat → Prop) (d : Nat) (w : World) (r : Value) (a' : Ar) (e : Ending) (w' : World) : Prop := e = .returned r ∧ ArAt w' G d a' ∧ Kept G w w'
theorem used_good (h : Big w G d g cap dl Dl dt Dt T a) (hn : a.n ≤ 32) (f : Nat) (hf : f < a.n) (hs : (a.F f).st = 1) :
  Calls Tryz.prog 148 #[.pointer (some ⟨d,0,none⟩),.int .i64 (f : Int)] w fun e w' => e = .returned (.int .i64 0) ∧ w = w' := by
 have c0 := h.h0
 have f0 := h.fr.c0 hf
 rw [hs] at f0
 have hfz : (f : Int) < (a.n : Int) := by omega
 have hnz : (a.n : Int) ≤ 32 := by omega
 clear h hs
 go_enter Tryz.func148,Tryz.ntmps148
 go_wp2
 go_ret
 exact ⟨rfl,rfl⟩
theorem used_bad (h : ArAt w G d a) (k : Int) (hk : a.used k = false) :
  Calls Tryz.prog 148 #[.pointer (some ⟨d,0,none⟩),.int .i64 k] w fun e w' => e = .returned (.int .i64 2) ∧ w = w' := by
 have hn := h.good.n
 by_cases h0 : k < 0
 ·clear h hk hn
  go_enter Tryz.func148,Tryz.ntmps148
  go_wp2
  go_ret
  exact ⟨rfl,rfl⟩
 ·obtain ⟨f,rfl⟩ := Int.eq_ofNat_of_zero_le (show 0 ≤ k by omega)
  rcases h.mem with h' | ⟨g,cap,dl,Dl,dt,Dt,T,h'⟩
  ·have c0 := h'.h0
   clear h hk hn h0 h'
   go_enter Tryz.func148,Tryz.ntmps148
   go_wp2
   go_ret
   exact ⟨rfl,rfl⟩
  ·have c0 := h'.h0
   by_cases hf : f < a.n
   ·have f0 := h'.fr.c0 hf
    have hfz : (f : Int) < (a.n : Int) := by omega
    have hnz : (a.n : Int) ≤ 32 := by omega
    have hs : ((a.F f).st == 1) = false := by
     cases e : ((a.F f).st == 1) with
     | false => rfl
     | true => rw [used_iff.2 ⟨f,rfl,hf,by simpa using e⟩] at hk;cases hk
    have hs' : ((a.F f).st != 1) = true := by unfold bne;rw [hs];rfl
    clear h hk hn h0 h'
    generalize (a.F f).st = st at *
    go_enter Tryz.func148,Tryz.ntmps148
    go_wp2
    go_ret
    exact ⟨rfl,rfl⟩
   ·have hfz : (a.n : Int) ≤ (f : Int) := by omega
    clear h hk hn h0 h'
    go_enter Tryz.func148,Tryz.ntmps148
    go_wp2
    go_ret
    exact ⟨rfl,rfl⟩
end
end ArC
namespace ArRefC
open Go.ChangeShapes Go.WideShapes Go.ChangeAt Go.RowKit
open Mem Blk Cells Orow TabM ArM ArC Stages
open ListM (ints ints_len ints_get)
def rcell (vL vB vQ : Value) (j : Nat) : Value := if j = 0 then vL else if j = 1 then vB else vQ
def scell (S : Nat → List Int) (j : Nat) : Value := .string (strOfNums (S j))
structure RMem (w : World) (G : Nat → Prop) (m : Nat) (vL vB : Value) (A : Option Addr) (c : Nat) (S : Nat → List Int) (a : Ar) : Prop where
 hd : Row w m 3 (rcell vL vB (.slice A a.Q.length c))
 fr : OS w (fun k => G k ∧ k ≠ m ∧ vB.ownBlock ≠ some k) vL 36 5 a.n (fcell a.F)
 bo : OS w (fun k => G k ∧ k ≠ m) vB 9 1 a.n (scell S)
 sb : ∀ x,x < a.n → (a.F x).st = 1 → S x = a.B x
 id : Sl w w.heap.size .i64 A a.Q.length (ints a.Q)
 cc : a.Q.length ≤ c ∧ c ≤ maxLen
 off : ∀ x,A = some x → G x.block ∧ x.block ≠ m ∧ vL.ownBlock ≠ some x.block ∧ vB.ownBlock ≠ some x.block
 inG : G m
 lt : ∀ x,A = some x → x.block < w.heap.size
structure RAt (w : World) (G : Nat → Prop) (m : Nat) (a : Ar) : Prop where
 good : ArM.Good a
 mem : ∃ vL vB A c S,RMem w G m vL vB A c S a
theorem sl_at {F : Nat → Prop} {w w' : World} {B n : Nat} {k : IntKind} {A : Option Addr} {zs : List Int} (h : Sl w B k A n zs) (hk : Kept F w w') (hA : ∀ x,A = some x → ¬ F x.block) : Sl w' w'.heap.size k A n zs :=
 ⟨h.1,fun hn => by
  obtain ⟨b,off,rfl,hb,hc⟩ := h.2 hn
  have h1 := hk.cellN (hc 0 hn) (hA ⟨b,off,none⟩ rfl)
  exact ⟨b,off,rfl,block_lt_of_cell h1,fun j hj => hk.cellN (hc j hj) (hA ⟨b,off,none⟩ rfl)⟩⟩
theorem os_sl {w : World} {G : Nat → Prop} {v : Value} {t : TypeId} {s n : Nat} {f : Nat → Value} (h : OS w G v t s n f) : ∃ A c,v = .slice A n c ∧ (0 < n → ∃ g,A = some ⟨g,0,none⟩ ∧ OR w g t s c n f) := by
 rcases h with ⟨e,h0⟩ | ⟨g,c,e,ho,_⟩
 ·exact ⟨none,0,by rw [e,h0],fun h => by omega⟩
 ·exact ⟨_,c,e,fun _ => ⟨g,rfl,ho⟩⟩
section
variable {w w' : World} {G H F : Nat → Prop} {m c g cap : Nat} {vL vB : Value} {A : Option Addr} {S : Nat → List Int} {a : Ar}
theorem RMem.kept (h : RMem w G m vL vB A c S a) (hk : Kept F w w') (hF : ∀ k,G k → ¬ F k) : RMem w' G m vL vB A c S a :=
 ⟨h.hd.kept hk (hF _ h.inG),h.fr.kept hk fun k x => hF k x.1,h.bo.kept hk fun k x => hF k x.1,h.sb,sl_at h.id hk fun x e => hF _ (h.off x e).1,h.cc,h.off,h.inG,fun x e => Nat.lt_of_lt_of_le (h.lt x e) hk.size⟩
theorem os_mono {v : Value} {t : TypeId} {s n : Nat} {f : Nat → Value} {P Q : Nat → Prop} (h : OS w P v t s n f) (hH : ∀ k,k < w.heap.size → P k → Q k) : OS w Q v t s n f := by
 rcases h with h | ⟨g,c,e,ho,hg⟩
 ·exact .inl h
 ·exact .inr ⟨g,c,e,ho,hH g ho.lt hg⟩
theorem RAt.kept (h : RAt w G m a) (hk : Kept F w w') (hF : ∀ k,G k → ¬ F k) : RAt w' G m a := by
 obtain ⟨vL,vB,A,c,S,h'⟩ := h.mem
 exact ⟨h.good,vL,vB,A,c,S,h'.kept hk hF⟩
theorem RAt.lt (h : RAt w G m a) : m < w.heap.size ∧ G m := by
 obtain ⟨vL,vB,A,c,S,h'⟩ := h.mem
 exact ⟨h'.hd.lt,h'.inG⟩
theorem RMem.c0 (h : RMem w G m vL vB A c S a) : w.cell? ⟨m,0,none⟩ = some vL := h.hd.cell (i := 0) (by omega)
theorem RMem.c1 (h : RMem w G m vL vB A c S a) : w.cell? ⟨m,1,none⟩ = some vB := h.hd.cell (i := 1) (by omega)
theorem RMem.c2 (h : RMem w G m vL vB A c S a) : w.cell? ⟨m,2,none⟩ = some (.slice A a.Q.length c) := h.hd.cell (i := 2) (by omega)
theorem RMem.frm {F' : Nat → Fr} (h : RMem w G m (.slice (some ⟨g,0,none⟩) a.n cap) vB A c S a) (hf : FR w' g cap a.n F') (hk : Kept (· = g) w w') (hs : ∀ x,x < a.n → (F' x).st = 1 → S x = a.B x) : RMem w' G m (.slice (some ⟨g,0,none⟩) a.n cap) vB A c S ⟨a.n,F',a.B,a.Q⟩ := by
 have hb : G g ∧ g ≠ m ∧ vB.ownBlock ≠ some g := by
  rcases h.fr with ⟨e,_⟩ | ⟨g',c',e,_,hb⟩
  ·cases e
  ·injection e with e1
   injection e1 with e1
   injection e1 with e1
   subst e1
   exact hb
 refine ⟨h.hd.kept hk hb.2.1.symm,.inr ⟨g,cap,rfl,hf,hb⟩,?_,hs,sl_at h.id hk fun x e x2 => (h.off x e).2.2.1 (by rw [← x2];rfl),h.cc,h.off,h.inG,fun x e => Nat.lt_of_lt_of_le (h.lt x e) hk.size⟩
 rcases h.bo with h' | ⟨g',c',e,ho,hb'⟩
 ·exact .inl h'
 ·exact .inr ⟨g',c',e,ho.kept hk fun x => hb.2.2 (by rw [e,← x];rfl),hb'⟩
theorem RAt.form (h : RAt w G m a) (hn : 0 < a.n) : ∃ g cap vB A c S,RMem w G m (.slice (some ⟨g,0,none⟩) a.n cap) vB A c S a ∧ FR w g cap a.n a.F ∧ G g := by
 obtain ⟨vL,vB,A,c,S,h'⟩ := h.mem
 obtain ⟨g,cap,rfl,hf,hg⟩ := h'.fr.form hn
 exact ⟨g,cap,vB,A,c,S,h',hf,hg.1⟩
def RPost (G : Nat → Prop) (m : Nat) (w : World) (r : Value) (a' : Ar) (e : Ending) (w' : World) : Prop := e = .returned r ∧ RAt w' G m a' ∧ Kept G w w'
theorem rused_any (h : RAt w G m a) (k : Int) : Calls Tryz.prog 118 #[.pointer (some ⟨m,0,none⟩),.int .i64 k] w fun e w' => e = .returned (.bool (a.used k)) ∧ w = w' := by
 obtain ⟨vL,vB,A,c,S,h'⟩ := h.mem
 have hn := h.good.n
 have c0 := h'.c0
 obtain ⟨AL,cL,rfl,hL⟩ := os_sl h'.fr
 by_cases h0 : k < 0
 ·have e : a.used k = false := by unfold Ar.used;rw [decide_eq_false (by omega)];rfl
  rw [e]
  clear h h' e hL
  go_enter Tryz.func118,Tryz.ntmps118
  go_wp2
  go_ret
  exact ⟨rfl,rfl⟩
 ·obtain ⟨f,rfl⟩ := Int.eq_ofNat_of_zero_le (show 0 ≤ k by omega)
  by_cases hf : f < a.n
  ·obtain ⟨g,rfl,ho⟩ := hL (by omega)
   have f0 := FR.c0 ho hf
   have hfz : (f : Int) < (a.n : Int) := by omega
   have hnz : (a.n : Int) ≤ 32 := by omega
   have e : a.used (f : Int) = ((a.F f).st == 1) := by
    unfold Ar.used
    rw [decide_eq_true (show (0 : Int) ≤ (f : Int) by omega),decide_eq_true hfz,Int.toNat_natCast]
    rfl
   rw [e]
   clear h h' hL ho e h0
   generalize (a.F f).st = st at *
   go_enter Tryz.func118,Tryz.ntmps118
   go_wp2
   go_ret
   exact ⟨rfl,rfl⟩
  ·have e : a.used (f : Int) = false := by unfold Ar.used;rw [decide_eq_false (show ¬ (f : Int) < (a.n : Int) by omega)];simp
   have hfz : (a.n : Int) ≤ (f : Int) := by omega
   rw [e]
   clear h h' hL e h0 hf
   go_enter Tryz.func118,Tryz.ntmps118
   go_wp2
   go_ret
   exact ⟨rfl,rfl⟩
theorem rfind_any (h : RAt w G m a) (p : Int) : Calls Tryz.prog 59 #[.pointer (some ⟨m,0,none⟩),.int .i64 p] w fun e w' => e = .returned (.int .i64 (a.find p)) ∧ w = w' := by
 obtain ⟨vL,vB,A,c,S,h'⟩ := h.mem
 have hn := h.good.n
 have C0 := hid h'.c0
 obtain ⟨AL,cL,rfl,hL⟩ := os_sl h'.fr
 have HL := hid hL
 have hnz : (a.n : Int) ≤ 32 := by omega
 clear h h' hL
 go_enter Tryz.func59,Tryz.ntmps59
 go_wp2
 go_loopg [5] a.n (fun gx i wr => ∃ j : Nat,j + gx = a.n ∧ i = .int .i64 (j : Int) ∧ (∀ k,k < j → isP a p k = false) ∧ w = wr)
 case atStart => exact ⟨0,by omega,rfl,fun k hk => absurd hk (by omega),rfl⟩
 case round =>
  obtain ⟨j,hg,rfl,hno,rfl⟩ := hrel
  have HG := hid hg
  have HNO := hid hno
  clear hg hno
  have c0 := C0.out
  by_cases hj : j < a.n
  ·have hjz : (j : Int) < (a.n : Int) := by omega
   obtain ⟨g,rfl,ho⟩ := HL.out (by omega)
   have f0 := FR.c0 ho hj
   have f1 := FR.c1 ho hj
   by_cases hs : (a.F j).st = 1
   ·rw [hs] at f0
    by_cases hp : (a.F j).pg = p
    ·have HE : Hid (a.find p = (j : Int)) := by
      show _ = _
      unfold Ar.find
      rw [least_eq hj (isP_iff.2 ⟨hs,hp⟩) HNO.out,if_pos hj]
     rw [hp] at f1
     clear ho hs hp
     go_wp2
     go_ret
     exact ⟨by rw [HE.out];rfl,rfl⟩
    ·have hp' : ((a.F j).pg == p) = false := beq_eq_false_iff_ne.2 hp
     have HE : Hid (isP a p j = false) := by show _ = _;unfold isP;rw [decide_eq_false hp,Bool.and_false]
     clear ho hs hp
     generalize (a.F j).pg = pg at *
     go_wp2
     go_roundg (gk - 1)
     case measure => have := HG.out;omega
     case rel =>
      refine ⟨j + 1,by have := HG.out;omega,by go_num,fun k hk => ?_,rfl⟩
      by_cases e : k = j
      ·subst e;exact HE.out
      ·exact HNO.out k (by omega)
   ·have hs' : ((a.F j).st == 1) = false := beq_eq_false_iff_ne.2 hs
    have HE : Hid (isP a p j = false) := by show _ = _;unfold isP;rw [decide_eq_false hs,Bool.false_and]
    clear ho hs
    generalize (a.F j).st = st at *
    go_wp2
    go_roundg (gk - 1)
    case measure => have := HG.out;omega
    case rel =>
     refine ⟨j + 1,by have := HG.out;omega,by go_num,fun k hk => ?_,rfl⟩
     by_cases e : k = j
     ·subst e;exact HE.out
     ·exact HNO.out k (by omega)
  ·obtain rfl : j = a.n := by have := HG.out;omega
   have HE : Hid (a.find p = -1) := by
    show _ = _
    unfold Ar.find
    rw [least_all HNO.out,if_neg (by omega)]
   go_wp2
   go_ret
   exact ⟨by rw [HE.out];rfl,rfl⟩
theorem RAt.turn {f : Nat} {v : Fr} (h : RAt w G m a) (hg : ArM.Good (a.turn f v)) (hM : RMem w G m (.slice (some ⟨g,0,none⟩) a.n cap) vB A c S a) (hs : (a.F f).st = 1) (hf : f < a.n) (hfr : FR w' g cap a.n (upd a.F f v)) (hk : Kept (· = g) w w') : RAt w' G m (a.turn f v) := by
 refine ⟨hg,_,vB,A,c,S,hM.frm hfr hk fun x hx hx1 => hM.sb x hx ?_⟩
 by_cases e : x = f
 ·subst e;exact hs
 ·rw [upd_other _ _ e] at hx1;exact hx1
theorem rpin_any (h : RAt w G m a) (k : Int) : Calls Tryz.prog 66 #[.pointer (some ⟨m,0,none⟩),.int .i64 k] w (RPost G m w (.int .i64 (a.pinC k)) (a.pin k)) := by
 have HU := hid (rused_any h k)
 cases hu : a.used k with
 | false =>
  have e1 : a.pinC k = 2 := by unfold Ar.pinC;rw [hu];rfl
  have e2 : a.pin k = a := by unfold Ar.pin;rw [e1];rfl
  rw [e1,e2]
  rw [hu] at HU
  have HA := hid h
  clear h hu e1 e2
  go_enter Tryz.func66,Tryz.ntmps66
  go_wp2_with (go_at_call 118;(with_reducible refine HU.out.mono ?_);rintro e w' ⟨rfl,rfl⟩)
  go_ret
  exact ⟨rfl,HA.out,Kept.refl _ _⟩
 | true =>
  rw [hu] at HU
  obtain ⟨f,rfl,hf,hs⟩ := used_iff.1 hu
  have HG := hid (h.good.pin (f : Int))
  have hbd := h.good.use f hf hs
  have hn32 := h.good.n
  obtain ⟨g,cap,vB,A,c,S,hb,hfr,hgG⟩ := h.form (by omega)
  have c0 := hb.c0
  have f2 := FR.c2 hfr hf
  have fz := OR.frozen hfr (f * 5 + 2)
  have hfz : (f : Int) < (a.n : Int) := by omega
  have hnz : (a.n : Int) ≤ 32 := by omega
  by_cases h1000 : 1000 ≤ (a.F f).pn
  ·have e1 : a.pinC (f : Int) = 12 := by unfold Ar.pinC;rw [if_pos hu,Int.toNat_natCast,if_pos h1000]
   have e2 : a.pin (f : Int) = a := by unfold Ar.pin;rw [e1];rfl
   have HA := hid h
   rw [e1,e2]
   clear h hb hfr hbd e1 e2 HG hu hs
   generalize (a.F f).pn = pn at *
   go_enter Tryz.func66,Tryz.ntmps66
   go_wp2_with (go_at_call 118;(with_reducible refine HU.out.mono ?_);rintro e w' ⟨rfl,rfl⟩)
   go_ret
   exact ⟨rfl,HA.out,Kept.refl _ _⟩
  ·have e1 : a.pinC (f : Int) = 0 := by unfold Ar.pinC;rw [if_pos hu,Int.toNat_natCast,if_neg h1000]
   have e2 : a.pin (f : Int) = a.turn f ⟨(a.F f).st,(a.F f).pg,(a.F f).pn + 1,(a.F f).di⟩ := by unfold Ar.pin;rw [if_pos e1,Int.toNat_natCast]
   rw [e2] at HG
   rw [e1,e2]
   have HK := hid (kept_set w g (f * 5 + 2) (.int .i64 ((a.F f).pn + 1)))
   have HB := hid (RAt.turn h HG.out hb hs hf (FR.set2 hfr f ((a.F f).pn + 1)) HK.out)
   have h1p : (a.F f).pn < 1000 := by omega
   obtain ⟨_,_,hp0,hp1⟩ := hbd
   clear h hb hfr h1000 e1 e2 hu hs HG
   generalize (a.F f).pn = pn at *
   go_enter Tryz.func66,Tryz.ntmps66
   go_wp2_with (go_at_call 118;(with_reducible refine HU.out.mono ?_);rintro e w' ⟨rfl,rfl⟩)
   go_ret
   exact ⟨rfl,HB.out,HK.out.mono fun k _ e => by subst e;exact hgG⟩
theorem runpin_any (h : RAt w G m a) (k : Int) : Calls Tryz.prog 61 #[.pointer (some ⟨m,0,none⟩),.int .i64 k] w (RPost G m w (.int .i64 (a.unpinC k)) (a.unpin k)) := by
 have HU := hid (rused_any h k)
 cases hu : a.used k with
 | false =>
  have e1 : a.unpinC k = 2 := by unfold Ar.unpinC;rw [hu];rfl
  have e2 : a.unpin k = a := by unfold Ar.unpin;rw [e1];rfl
  rw [e1,e2]
  rw [hu] at HU
  have HA := hid h
  clear h hu e1 e2
  go_enter Tryz.func61,Tryz.ntmps61
  go_wp2_with (go_at_call 118;(with_reducible refine HU.out.mono ?_);rintro e w' ⟨rfl,rfl⟩)
  go_ret
  exact ⟨rfl,HA.out,Kept.refl _ _⟩
 | true =>
  rw [hu] at HU
  obtain ⟨f,rfl,hf,hs⟩ := used_iff.1 hu
  have HG := hid (h.good.unpin (f : Int))
  have hbd := h.good.use f hf hs
  have hn32 := h.good.n
  obtain ⟨g,cap,vB,A,c,S,hb,hfr,hgG⟩ := h.form (by omega)
  have c0 := hb.c0
  have f2 := FR.c2 hfr hf
  have fz := OR.frozen hfr (f * 5 + 2)
  have hfz : (f : Int) < (a.n : Int) := by omega
  have hnz : (a.n : Int) ≤ 32 := by omega
  by_cases hz0 : (a.F f).pn = 0
  ·have e1 : a.unpinC (f : Int) = 12 := by unfold Ar.unpinC;rw [if_pos hu,Int.toNat_natCast,if_pos hz0]
   have e2 : a.unpin (f : Int) = a := by unfold Ar.unpin;rw [e1];rfl
   have HA := hid h
   rw [e1,e2]
   rw [hz0] at f2
   clear h hb hfr hbd e1 e2 HG hu hs hz0
   go_enter Tryz.func61,Tryz.ntmps61
   go_wp2_with (go_at_call 118;(with_reducible refine HU.out.mono ?_);rintro e w' ⟨rfl,rfl⟩)
   go_ret
   exact ⟨rfl,HA.out,Kept.refl _ _⟩
  ·have e1 : a.unpinC (f : Int) = 0 := by unfold Ar.unpinC;rw [if_pos hu,Int.toNat_natCast,if_neg hz0]
   have e2 : a.unpin (f : Int) = a.turn f ⟨(a.F f).st,(a.F f).pg,(a.F f).pn - 1,(a.F f).di⟩ := by unfold Ar.unpin;rw [if_pos e1,Int.toNat_natCast]
   rw [e2] at HG
   rw [e1,e2]
   have HK := hid (kept_set w g (f * 5 + 2) (.int .i64 ((a.F f).pn - 1)))
   have HB := hid (RAt.turn h HG.out hb hs hf (FR.set2 hfr f ((a.F f).pn - 1)) HK.out)
   have h1p : ((a.F f).pn == 0) = false := beq_eq_false_iff_ne.2 hz0
   obtain ⟨_,_,hp0,hp1⟩ := hbd
   clear h hb hfr hz0 e1 e2 hu hs HG
   generalize (a.F f).pn = pn at *
   go_enter Tryz.func61,Tryz.ntmps61
   go_wp2_with (go_at_call 118;(with_reducible refine HU.out.mono ?_);rintro e w' ⟨rfl,rfl⟩)
   go_ret
   exact ⟨rfl,HB.out,HK.out.mono fun k _ e => by subst e;exact hgG⟩
theorem rmark_any (h : RAt w G m a) (k : Int) (q : Bool) : Calls Tryz.prog 56 #[.pointer (some ⟨m,0,none⟩),.int .i64 k,.bool q] w (RPost G m w (.int .i64 (a.markC k)) (a.mark k q)) := by
 have HU := hid (rused_any h k)
 cases hu : a.used k with
 | false =>
  have e1 : a.markC k = 2 := by unfold Ar.markC;rw [hu];rfl
  have e2 : a.mark k q = a := by unfold Ar.mark;rw [hu];rfl
  rw [e1,e2]
  rw [hu] at HU
  have HA := hid h
  clear h hu e1 e2
  go_enter Tryz.func56,Tryz.ntmps56
  go_wp2_with (go_at_call 118;(with_reducible refine HU.out.mono ?_);rintro e w' ⟨rfl,rfl⟩)
  go_ret
  exact ⟨rfl,HA.out,Kept.refl _ _⟩
 | true =>
  rw [hu] at HU
  obtain ⟨f,rfl,hf,hs⟩ := used_iff.1 hu
  have HG := hid (h.good.mark (f : Int) q)
  have hn32 := h.good.n
  obtain ⟨g,cap,vB,A,c,S,hb,hfr,hgG⟩ := h.form (by omega)
  have c0 := hb.c0
  have f4 := FR.c4 hfr hf
  have fz := OR.frozen hfr (f * 5 + 4)
  have hfz : (f : Int) < (a.n : Int) := by omega
  have hnz : (a.n : Int) ≤ 32 := by omega
  have e1 : a.markC (f : Int) = 0 := by unfold Ar.markC;rw [if_pos hu]
  have e2 : a.mark (f : Int) q = a.turn f ⟨(a.F f).st,(a.F f).pg,(a.F f).pn,q⟩ := by unfold Ar.mark;rw [if_pos hu,Int.toNat_natCast]
  rw [e2] at HG
  rw [e1,e2]
  have HK := hid (kept_set w g (f * 5 + 4) (.bool q))
  have HB := hid (RAt.turn h HG.out hb hs hf (FR.set4 hfr f q) HK.out)
  clear h hb hfr e1 e2 hu hs HG
  go_enter Tryz.func56,Tryz.ntmps56
  go_wp2_with (go_at_call 118;(with_reducible refine HU.out.mono ?_);rintro e w' ⟨rfl,rfl⟩)
  go_ret
  exact ⟨rfl,HB.out,HK.out.mono fun k _ e => by subst e;exact hgG⟩
theorem RMem.cut {q : List Nat} {f : Nat} (h : RMem w G m vL vB A c S a) (hq : a.Q = f :: q) : ∃ A',(if c = 1 then A else A.map (·.add 1)) = A' ∧ RMem (w.setCell ⟨m,2,none⟩ (.slice A' q.length (c - 1))) G m vL vB A' (c - 1) S ⟨a.n,a.F,a.B,q⟩ := by
 refine ⟨_,rfl,?_⟩
 have hk := kept_set w m 2 (.slice (if c = 1 then A else A.map (·.add 1)) q.length (c - 1))
 have hidq := h.id
 have hcc := h.cc
 have hl : a.Q.length = q.length + 1 := by rw [hq];rfl
 rw [hl] at hidq hcc
 have hcut := Sl.cut hidq (m := 1) (cap := c) (by omega) hcc.1
 rw [show q.length + 1 - 1 = q.length by omega,show (ints a.Q).drop 1 = ints q by rw [hq];rfl] at hcut
 have hoff : ∀ x,(if c = 1 then A else A.map (·.add 1)) = some x → (G x.block ∧ x.block ≠ m ∧ vL.ownBlock ≠ some x.block ∧ vB.ownBlock ≠ some x.block) ∧ x.block < w.heap.size := fun x hx => by
  split at hx
  ·exact ⟨h.off x hx,h.lt x hx⟩
  ·cases A with
   | none => cases hx
   | some y =>
    injection hx with hx
    have e : x.block = y.block := by rw [← hx];unfold Addr.add;split <;> rfl
    rw [e]
    exact ⟨h.off y rfl,h.lt y rfl⟩
 refine ⟨(h.hd.set 2 _).congr fun i hi => ?_,h.fr.kept hk fun k x y => x.2.1 y,h.bo.kept hk fun k x y => x.2 y,h.sb,sl_at hcut hk fun x e y => (hoff x e).1.2.1 y,by show q.length ≤ _ ∧ _ ≤ _;omega,fun x hx => (hoff x hx).1,h.inG,fun x hx => Nat.lt_of_lt_of_le (hoff x hx).2 hk.size⟩
 have : i = 0 ∨ i = 1 ∨ i = 2 := by omega
 rcases this with rfl | rfl | rfl <;> rfl
theorem RMem.cut1 {q : List Nat} {f b off : Nat} (h : RMem w G m vL vB (some ⟨b,off,none⟩) c S a) (hq : a.Q = f :: q) : RMem (w.setCell ⟨m,2,none⟩ (.slice (if c = 1 then some ⟨b,off,none⟩ else some ⟨b,off + 1,none⟩) q.length (c - 1))) G m vL vB (if c = 1 then some ⟨b,off,none⟩ else some ⟨b,off + 1,none⟩) (c - 1) S ⟨a.n,a.F,a.B,q⟩ := by
 obtain ⟨A',e,h'⟩ := h.cut hq
 have e2 : Option.map (fun x : Addr => x.add 1) (some (⟨b,off,none⟩ : Addr)) = some ⟨b,off + 1,none⟩ := by simp [Addr.add]
 rw [e2] at e
 rw [e]
 exact h'
theorem zeros_any : Calls Tryz.prog 162 #[] w fun e w' => e = .returned (.string (strOfNums zeros)) ∧ Grow w w' := by
 have infoU8 : (Tryz.prog.info? 5).map (fun i => (i.zero,i.size,i.bytes)) = some (some (.int .u8 0),1,1) := by kernel_rfl
 have hmk := fun w => run_make_row' (P := Tryz.prog) 22 5 (.int .u8 0) 1 Tryz.underlying22 infoU8 rfl .i64 .i64 16 (by omega) (by omega) w
 simp only [Int.cast_ofNat_Int] at hmk
 have hb : NBlk (w.alloc (.cells (madeCells #[Value.int .u8 0] 16) 5)) w.heap.size 5 .u8 zeros := NBlk.made w 5 .u8 16
 have hbel : Grow w (w.alloc (.cells (madeCells #[Value.int .u8 0] 16) 5)) := (Kept.refl _ _).alloc _
 have hcv := (Sl.of_blk0 (B := w.heap.size + 1) hb (n := 16) (by rfl) (by omega)).str (P := Tryz.prog) 22 9 5 Tryz.underlying22 Tryz.underlying5 Tryz.underlying9 16
 have HB := hid hbel
 clear hb hbel
 go_enter Tryz.func162,Tryz.ntmps162
 go_wp2
 go_ret
 exact ⟨rfl,HB.out⟩
end
end ArRefC
namespace GrC
open Go.ChangeShapes Go.WideShapes Go.ChangeAt Go.RowKit
open Mem Blk Cells Orow
theorem infoS : (Tryz.prog.info? 33).map (fun i => (i.zero,i.size,i.bytes)) = some (some (.slice none 0 0),1,24) := by kernel_rfl
def hcell (f : Nat → Int) (j : Nat) : Value := .int .i64 (f j)
def scell (q cp : Nat → Nat) (i : Nat) : Value := .slice (some ⟨q i,0,none⟩) 6 (cp i)
structure Gr (w : World) (G : Nat → Prop) (v : Value) (n : Nat) (q cp : Nat → Nat) (H : Nat → Nat → Int) : Prop where
 out : OS w G v 33 1 n (scell q cp)
 row : ∀ i,i < n → OR w (q i) 3 1 (cp i) 6 (hcell (H i))
 inG : ∀ i,i < n → G (q i)
 off : ∀ i,i < n → v.ownBlock ≠ some (q i)
 ne : ∀ i j,i < n → j < n → q i = q j → i = j
section
variable {w w' : World} {G F X : Nat → Prop} {v : Value} {n d b cb c r g cap vb : Nat} {q cp : Nat → Nat} {H : Nat → Nat → Int} {f : Nat → Int}
theorem os_mono {t : TypeId} {s : Nat} {f : Nat → Value} (h : OS w G v t s n f) (hX : ∀ k,k < w.heap.size → G k → X k) : OS w X v t s n f := by
 rcases h with h | ⟨g,cap,e,ho,hg⟩
 ·exact .inl h
 ·exact .inr ⟨g,cap,e,ho,hX _ ho.lt hg⟩
theorem os_in {t : TypeId} {s : Nat} {f : Nat → Value} (h : OS w G v t s n f) {k : Nat} (hk : v.ownBlock = some k) : G k ∧ k < w.heap.size := h.own.2 k hk
theorem Gr.kept (h : Gr w G v n q cp H) (hk : Kept F w w') (hF : ∀ k,G k → ¬ F k) : Gr w' G v n q cp H :=
 ⟨h.out.kept hk hF,fun i hi => (h.row i hi).kept hk (hF _ (h.inG i hi)),h.inG,h.off,h.ne⟩
theorem Gr.get (h : Gr w G v n q cp H) {i : Nat} (hi : i < n) : ∃ g cap,v = .slice (some ⟨g,0,none⟩) n cap ∧ w.cell? ⟨g,i,none⟩ = some (.slice (some ⟨q i,0,none⟩) 6 (cp i)) ∧ OR w (q i) 3 1 (cp i) 6 (hcell (H i)) := by
 obtain ⟨g,cap,rfl,ho,_⟩ := h.out.form (by omega)
 exact ⟨g,cap,rfl,ho.cell (by omega),h.row i hi⟩
theorem hcell_get (h : OR w b 3 1 c 6 (hcell f)) {j : Nat} (hj : j < 6) : w.cell? ⟨b,j,none⟩ = some (.int .i64 (f j)) := h.cell (by omega)
def up (q : Nat → Nat) (n r : Nat) (i : Nat) : Nat := if i = n then r else q i
theorem up_same : up q n r n = r := if_pos rfl
theorem up_other {i : Nat} (h : i < n) : up q n r i = q i := if_neg (by omega)
def rcell (r c : Nat) (_ : Nat) : Value := .slice (some ⟨r,0,none⟩) 6 c
theorem Gr.app (h : Gr w G v n q cp H) (hn : n ≤ 1000) (hx : w.cell? ⟨vb,0,none⟩ = some (.slice (some ⟨r,0,none⟩) 6 c)) :
  ∃ g cap w',(∀ ty,(Builtin.append_ #[48,48] ty #[v,.slice (some ⟨vb,0,none⟩) 1 1]).run Tryz.prog w = .ok (.slice (some ⟨g,0,none⟩) (n + 1) cap) w') ∧ OR w' g 33 1 cap (n + 1) (joined (scell q cp) (rcell r c) (n * 1)) ∧ Kept (fun k => v.ownBlock = some k) w w' ∧ (v.ownBlock = some g ∨ g = w.heap.size) := by
 obtain ⟨i,hi,hz,hs,hb⟩ := info_parts infoS
 obtain ⟨g,cap,w',h1,h2,h3,h4⟩ := append_or (P := Tryz.prog) 48 3 i _ 24 Tryz.underlying48 hi hz hs hb rfl (by omega) h.out (by omega) (by omega) vb 1 (u := rcell r c) (fun j hj => by
  have : j = 0 := by omega
  subst this
  exact hx) (fun j hj => rfl)
 exact ⟨g,cap,w',fun ty => h1,h2,h3,h4⟩
theorem Gr.push (h : Gr w G v n q cp H) (hr : OR w r 3 1 c 6 (hcell (H n))) (hG : G r) (hnr : ∀ i,i < n → q i ≠ r) (hvr : v.ownBlock ≠ some r)
  (ho : OR w' g 33 1 cap (n + 1) (joined (scell q cp) (rcell r c) (n * 1))) (hk : Kept (fun k => v.ownBlock = some k) w w') (hg : v.ownBlock = some g ∨ g = w.heap.size) (hnew : ∀ k,w.heap.size ≤ k → G k) :
  Gr w' G (.slice (some ⟨g,0,none⟩) (n + 1) cap) (n + 1) (up q n r) (up cp n c) H := by
 have hgG : G g := by
  rcases hg with e | e
  ·exact (os_in h.out e).1
  ·exact hnew _ (by omega)
 have hgr : g ≠ r := by
  rcases hg with e | e
  ·rintro rfl;exact hvr e
  ·have := hr.lt;omega
 refine ⟨.inr ⟨g,cap,rfl,ho.congr fun i hi => ?_,hgG⟩,fun i hi => ?_,fun i hi => ?_,fun i hi => ?_,fun i j hi hj e => ?_⟩
 ·unfold joined
  by_cases e : i < n
  ·rw [if_pos (by omega)]
   unfold scell
   rw [up_other e,up_other e]
  ·have : i = n := by omega
   subst this
   rw [if_neg (by omega)]
   unfold scell
   rw [up_same,up_same];rfl
 ·by_cases e : i < n
  ·rw [up_other e,up_other e]
   exact (h.row i e).kept hk (h.off i e)
  ·have : i = n := by omega
   subst this
   rw [up_same,up_same]
   exact hr.kept hk hvr
 ·by_cases e : i < n
  ·rw [up_other e];exact h.inG i e
  ·have : i = n := by omega
   subst this
   rw [up_same];exact hG
 ·show some g ≠ some (up q n r i)
  rintro e2
  injection e2 with e2
  by_cases e : i < n
  ·rw [up_other e] at e2
   rcases hg with x | x
   ·exact h.off i e (e2 ▸ x)
   ·have := (h.row i e).lt;omega
  ·have : i = n := by omega
   subst this
   rw [up_same] at e2
   exact hgr e2
 ·by_cases e1 : i < n
  ·by_cases e2 : j < n
   ·rw [up_other e1,up_other e2] at e
    exact h.ne i j e1 e2 e
   ·have : j = n := by omega
    subst this
    rw [up_other e1,up_same] at e
    exact absurd e (hnr i e1)
  ·have : i = n := by omega
   subst this
   by_cases e2 : j < i
   ·rw [up_other e2,up_same] at e
    exact absurd e.symm (hnr j e2)
   ·omega
theorem gr_nil (w : World) (G : Nat → Prop) (q cp : Nat → Nat) (H : Nat → Nat → Int) : Gr w G (.slice none 0 0) 0 q cp H :=
 ⟨.inl ⟨rfl,rfl⟩,fun i hi => absurd hi (Nat.not_lt_zero i),fun i hi => absurd hi (Nat.not_lt_zero i),fun i hi => absurd hi (Nat.not_lt_zero i),fun i _ hi => absurd hi (Nat.not_lt_zero i)⟩
theorem six_lit (w : World) : OR (w.alloc (.cells #[.int .i64 (-1),.int .i64 (-1),.int .i64 (-1),.int .i64 (-1),.int .i64 (-1),.int .i64 (-1)] 3)) w.heap.size 3 1 6 6 (hcell fun _ => -1) := by
 refine ⟨_,heap_alloc_new w _,rfl,Nat.le_refl _,by unfold maxLen;omega,fun i hi => ?_⟩
 have : i = 0 ∨ i = 1 ∨ i = 2 ∨ i = 3 ∨ i = 4 ∨ i = 5 := by omega
 rcases this with rfl | rfl | rfl | rfl | rfl | rfl <;> rfl
def six (f : Nat → Int) : List Int := (List.range 6).map f
end
end GrC
namespace Txt
open Go.RowKit
open Mem Blk
theorem str_size (zs : List Int) : (strOfNums zs).size = zs.length := by
 show (strOfNums zs).data.size = _
 simp [strOfNums]
theorem str_append (a b : List Int) : strOfNums a ++ strOfNums b = strOfNums (a ++ b) := by
 apply ByteArray.ext
 rw [ByteArray.data_append]
 simp [strOfNums]
theorem str_drop (zs : List Int) (k n : Nat) (hn : zs.length = n) (_hk : k ≤ n) : (strOfNums zs).extract k n = strOfNums (zs.drop k) := by
 apply ByteArray.ext
 rw [ByteArray.data_extract]
 apply Array.ext'
 simp [strOfNums,List.map_drop]
 rw [List.take_of_length_le (by simp [hn])]
theorem str_take (zs : List Int) (k : Nat) : (strOfNums zs).extract 0 k = strOfNums (zs.take k) := by
 apply ByteArray.ext
 rw [ByteArray.data_extract]
 apply Array.ext'
 simp [strOfNums,List.map_take]
end Txt
end Go.Proofs.YtbnkpnllgoghnaaGreat
