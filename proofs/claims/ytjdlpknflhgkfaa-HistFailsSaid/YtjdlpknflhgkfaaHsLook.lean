/-
  Package hist: byThemselves, the first look (chapter 14).
-/
import Derived.Test.YtjdlpknflhgkfaaHsBad
import Derived.Deep.MidRow
namespace Go.Proofs.Ytjdlpknflhgkfaa.HsL
open Go.ChangeShapes Go.WideShapes Go.ChangeAt Go.RowKit
open Go.Proofs.Ytjdlpknflhgkfaa.Mem Go.Proofs.Ytjdlpknflhgkfaa.Blk Go.Proofs.Ytjdlpknflhgkfaa.Cells Go.Proofs.Ytjdlpknflhgkfaa.Orow Go.Proofs.Ytjdlpknflhgkfaa.MdM Go.Proofs.Ytjdlpknflhgkfaa.HsM Go.Proofs.Ytjdlpknflhgkfaa.HsE Go.Proofs.Ytjdlpknflhgkfaa.HsB Go.Proofs.Ytjdlpknflhgkfaa.PmC Go.Proofs.Ytjdlpknflhgkfaa.PmM Go.Proofs.Ytjdlpknflhgkfaa.Stages

theorem ev_info : (Try.prog.info? 29).map (·.size) = some 14 := by kernel_rfl
section
variable {w w' : World} {X : Nat → Prop} {x : Ev} {D A : Option Addr} {b q n dl dc al ac : Nat} {L : Nat → Ev}
/-- An event is loaded whole. -/
theorem load_ev (h : ∀ j v, (evl x D dl dc A al ac)[j]? = some v → w.cell? ⟨b, q + j, none⟩ = some v) :
    (Instr.loadAt 29 (.pointer (some ⟨b, q, none⟩))).run Try.prog w = .ok (.agg #[.int .i64 x.c, .int .i64 x.o.k, .int .i64 x.o.p, .int .i64 x.o.h, .int .i64 x.o.o, .int .i64 x.o.n, .slice D dl dc, .int .i64 x.r.c, .int .i64 x.r.p, .int .i64 x.r.h, .slice A al ac, .int .i64 x.b, .int .i64 x.s, .int .i64 x.e]) w :=
  run_loadAt_mid w b q 29 (evl x D dl dc A al ac) _ h Try.underlying29 rfl ev_info
/-- What stands in the array: till when each client is busy. -/
structure Busy (L : Nat → Ev) (j : Nat) (B : Nat → Int) : Prop where
  all : ∀ k c : Nat, k < j → (L k).c = (c : Int) → ((L k).e = 0 → B c = 9223372036854775807) ∧ (0 < (L k).e → (L k).e ≤ B c)
  some : ∀ c, B c = 0 ∨ ∃ k, k < j ∧ (L k).c = (c : Int) ∧ (((L k).e = 0 ∧ B c = 9223372036854775807) ∨ (0 < (L k).e ∧ B c = (L k).e))
theorem busy_zero (L : Nat → Ev) : Busy L 0 fun _ => 0 := ⟨fun k _ h => absurd h (Nat.not_lt_zero k), fun _ => .inl rfl⟩
def upB (B : Nat → Int) (c : Nat) (v : Int) (i : Nat) : Int := if i = c then v else B i
def endOf (e : Int) : Int := if e = 0 then 9223372036854775807 else e
theorem Busy.free {N : Int} {j c : Nat} {B : Nat → Int} (h : Busy L j B) (hc : (L j).c = (c : Int)) (hb : 0 < (L j).b) (hm : (L j).b ≤ 9223372036854775807) (hok : ∀ k, k < j → okAt L N k) :
    ¬ ((L j).b ≤ B c) ↔ ∀ k, k < j → (L k).c = (L j).c → 0 < (L k).e ∧ (L k).e < (L j).b := by
  constructor
  · intro hn k hk hkc
    have he := ok_end (hok k hk)
    obtain ⟨h1, h2⟩ := h.all k c hk (hkc.trans hc)
    by_cases e0 : (L k).e = 0
    · have := h1 e0; omega
    · have := h2 (by omega); omega
  · intro hall hle
    rcases h.some c with e | ⟨k, hk, hkc, e⟩
    · omega
    · have := hall k hk (hkc.trans hc.symm)
      rcases e with ⟨e1, _⟩ | ⟨_, e2⟩ <;> omega
theorem Busy.next {N : Int} {j c : Nat} {B : Nat → Int} (h : Busy L j B) (hc : (L j).c = (c : Int)) (hok : okAt L N j) (hmb : (L j).b ≤ 9223372036854775807) : Busy L (j + 1) (upB B c (endOf (L j).e)) := by
  have he := ok_end hok
  refine ⟨fun k d hk hkd => ?_, fun d => ?_⟩
  · unfold upB
    by_cases ed : d = c
    · subst ed
      rw [if_pos rfl]
      by_cases ek : k = j
      · subst ek
        unfold endOf
        exact ⟨fun e => if_pos e, fun e => by rw [if_neg (by omega)]; omega⟩
      · obtain ⟨b1, b2⟩ := hok.busy k (by omega) (hkd.trans hc.symm)
        unfold endOf
        refine ⟨fun e => by omega, fun _ => ?_⟩
        have htm := hok.tm
        unfold inT inTn at htm
        split
        · omega
        · rename_i hne
          rw [if_pos (by omega)] at htm
          omega
    · rw [if_neg ed]
      have hkj : k ≠ j := fun e => ed (by subst e; omega)
      exact h.all k d (by omega) hkd
  · unfold upB
    by_cases ed : d = c
    · subst ed
      rw [if_pos rfl]
      refine .inr ⟨j, by omega, hc, ?_⟩
      unfold endOf
      by_cases e0 : (L j).e = 0
      · exact .inl ⟨e0, if_pos e0⟩
      · exact .inr ⟨by omega, if_neg e0⟩
    · rw [if_neg ed]
      rcases h.some d with e | ⟨k, hk, hkc, e⟩
      · exact .inl e
      · exact .inr ⟨k, by omega, hkc, e⟩
def FstP (L : Nat → Ev) (N : Int) (n : Nat) (w : World) (e : Ending) (w' : World) : Prop := ∃ r, e = .returned (.int .i64 r) ∧ Fst L N n r ∧ Grow w w'
def six6 (B : Nat → Int) : List Value := [.int .i64 (B 0), .int .i64 (B 1), .int .i64 (B 2), .int .i64 (B 3), .int .i64 (B 4), .int .i64 (B 5)]
theorem six6_get (B : Nat → Int) {c : Nat} (hc : c < 6) : (six6 B)[c]? = some (.int .i64 (B c)) := by
  rcases (by omega : c = 0 ∨ c = 1 ∨ c = 2 ∨ c = 3 ∨ c = 4 ∨ c = 5) with h | h | h | h | h | h <;> subst h <;> rfl
theorem six6_set (B : Nat → Int) {c : Nat} (hc : c < 6) (v : Int) : (six6 B).set c (.int .i64 v) = six6 (upB B c v) := by
  rcases (by omega : c = 0 ∨ c = 1 ∨ c = 2 ∨ c = 3 ∨ c = 4 ∨ c = 5) with h | h | h | h | h | h <;> subst h <;> rfl
/-- What the loop has: the array's block is g; the least that a Begin may be. -/
def LkLoop (L : Nat → Ev) (N : Int) (n g : Nat) (w : World) (gx : Nat) (v5 v6 v12 : Value) (wr : World) : Prop :=
  ∃ (j : Nat) (m : Int) (B : Nat → Int), j + gx = n ∧ v5 = .int .i64 0 ∧ v6 = .int .i64 m ∧ v12 = .int .i64 (j : Int) ∧ Blk wr g 102 (six6 B) ∧ Grow w wr ∧ (∀ k, k < j → okAt L N k) ∧ Busy L j B ∧ (∀ b : Int, b < m ↔ ¬ (0 < b ∧ ∀ k, k + 1 = j → (L k).b ≤ b))
set_option maxHeartbeats 8000000 in
set_option maxRecDepth 100000 in
theorem byThem_any (h : EvsAt w X A n L) (hn : n ≤ 100000) (N : Nat) (hN : N ≤ 6) (c : Nat) : Calls Try.prog 49 #[.slice A n c, .int .i64 (N : Int)] w (FstP L (N : Int) n w) := by
  have HE := Lib.hid h
  have hnz : (n : Int) ≤ 100000 := by omega
  have hNz : (N : Int) ≤ 6 := by omega
  have HBN : Hid (Blk (w.alloc (.cells #[.int .i64 0, .int .i64 0, .int .i64 0, .int .i64 0, .int .i64 0, .int .i64 0] 102)) w.heap.size 102 (six6 fun _ => 0)) := Blk.new w _ _
  have HG0 : Hid (Grow w (w.alloc (.cells #[.int .i64 0, .int .i64 0, .int .i64 0, .int .i64 0, .int .i64 0, .int .i64 0] 102))) := (Kept.refl _ _).alloc _
  clear h
  go_enter Try.func49, Try.ntmps49
  go_wp2
  go_step3
  go_wp2
  go_step3
  go_wp2
  generalize w.alloc (.cells #[.int .i64 0, .int .i64 0, .int .i64 0, .int .i64 0, .int .i64 0, .int .i64 0] 102) = w0 at *
  obtain ⟨g, hgs⟩ : ∃ g, g = w.heap.size := ⟨_, rfl⟩
  rw [← hgs] at HBN ⊢
  have HGS := Lib.hid hgs
  clear hgs
  go_loopg [5, 6, 12] n (LkLoop L (N : Int) n g w)
  case atStart => exact ⟨0, 1, fun _ => 0, by omega, rfl, rfl, rfl, HBN.out, HG0.out, fun k h => absurd h (Nat.not_lt_zero k), busy_zero L, fun b => ⟨fun h => fun x => by omega, fun h => by
    rcases Int.lt_or_le 0 b with x | x
    · exact absurd ⟨x, fun k hk => by omega⟩ h
    · omega⟩⟩
  case round =>
    obtain ⟨j, m, B, hg, rfl, rfl, rfl, hbk, hgr, hok, hbz, hm⟩ := hrel
    have HG := Lib.hid hg
    have HBK := Lib.hid hbk
    have HGR := Lib.hid hgr
    have HOK := Lib.hid hok
    have HBZ := Lib.hid hbz
    have HM := Lib.hid hm
    clear hg hbk hgr hok hbz hm HBN HG0
    by_cases hj : j < n
    · have hjz : (j : Int) < (n : Int) := by omega
      have HJ := Lib.hid hj
      obtain ⟨b, off, rfl, hall⟩ := HE.out (by omega)
      obtain ⟨D, dl, dc, A', al, ac, hc, hd⟩ := (hall j hj).kept HGR.out id (fun _ _ _ => id)
      have c0 := hc 0 _ rfl
      have c1 := hc 1 _ rfl
      have c2 := hc 2 _ rfl
      have c3 := hc 3 _ rfl
      have c4 := hc 4 _ rfl
      have c5 := hc 5 _ rfl
      have c6 := hc 6 _ rfl
      have c7 := hc 7 _ rfl
      have c8 := hc 8 _ rfl
      have c9 := hc 9 _ rfl
      have c10 := hc 10 _ rfl
      have c11 := hc 11 _ rfl
      have c12 := hc 12 _ rfl
      have c13 := hc 13 _ rfl
      simp only [Nat.add_zero] at c0
      have HD := Lib.hid hd
      clear hall hc hd hj
      go_upto_region 7 with (fail)
      clear c0 c1 c2 c3 c4 c5 c6 c7 c8 c9 c10 c11 c12 c13
      obtain ⟨hnb, hng⟩ := ev_new wr (L j) D dl dc A' al ac
      generalize wr.alloc (.cells #[.int .i64 (L j).c, .int .i64 (L j).o.k, .int .i64 (L j).o.p, .int .i64 (L j).o.h, .int .i64 (L j).o.o, .int .i64 (L j).o.n, .slice D dl dc, .int .i64 (L j).r.c, .int .i64 (L j).r.p, .int .i64 (L j).r.h, .slice A' al ac, .int .i64 (L j).b, .int .i64 (L j).s, .int .i64 (L j).e] 29) = we at hnb hng ⊢
      have HGE : Hid (Grow w we) := HGR.out.trans hng
      have HBE := Lib.hid (HBK.out.grow hng)
      have HNB := Lib.hid hnb
      have HFG : Hid (g < wr.heap.size) := HBK.out.lt
      obtain ⟨f, hf⟩ : ∃ f, f = wr.heap.size := ⟨_, rfl⟩
      rw [← hf] at hnb HNB HFG ⊢
      have s0 := hnb.cell 0
      have s1 := hnb.cell 1
      have s2 := hnb.cell 2
      have s3 := hnb.cell 3
      have s4 := hnb.cell 4
      have s5 := hnb.cell 5
      have s6 := hnb.cell 6
      have s7 := hnb.cell 7
      have s8 := hnb.cell 8
      have s9 := hnb.cell 9
      have s10 := hnb.cell 10
      have s11 := hnb.cell 11
      have s12 := hnb.cell 12
      have s13 := hnb.cell 13
      simp only [List.getElem?_cons_zero, List.getElem?_cons_succ] at s0 s1 s2 s3 s4 s5 s6 s7 s8 s9 s10 s11 s12 s13
      have HBAD : Hid (¬ okAt L (N : Int) j → ∀ wz, Grow w wz → FstP L (N : Int) n w (.returned (.int .i64 ((j : Int) + 1))) wz) := fun h wz hz => ⟨_, rfl, .inr ⟨j, HJ.out, rfl, h, HOK.out⟩, hz⟩
      have CT : Hid (∀ wx, Calls Try.prog 74 #[.agg #[.int .i64 (L j).c, .int .i64 (L j).o.k, .int .i64 (L j).o.p, .int .i64 (L j).o.h, .int .i64 (L j).o.o, .int .i64 (L j).o.n, .slice D dl dc, .int .i64 (L j).r.c, .int .i64 (L j).r.p, .int .i64 (L j).r.h, .slice A' al ac, .int .i64 (L j).b, .int .i64 (L j).s, .int .i64 (L j).e]] wx (Tells (inT (L j)) wx)) := fun wx => inTime_any (L j) D dl dc A' al ac wx
      have HR := Lib.hid HD.out.rng
      clear hnb hng hf HBK
      by_cases k0 : (L j).c < 0
      · have HX : Hid (¬ okAt L (N : Int) j) := fun h => by have := h.cl; omega
        go_wp2
        try rw [Exit.noGoto_ret]
        go_ret
        exact HBAD.out HX.out _ HGE.out
      by_cases k1 : (N : Int) ≤ (L j).c
      · have HX : Hid (¬ okAt L (N : Int) j) := fun h => by have := h.cl; omega
        go_wp2
        try rw [Exit.noGoto_ret]
        go_ret
        exact HBAD.out HX.out _ HGE.out
      by_cases k2 : (L j).b < m
      · have HX : Hid (¬ okAt L (N : Int) j) := fun h => (HM.out (L j).b).1 k2 ⟨h.bg, fun k hk => h.mono k hk⟩
        go_wp2
        try rw [Exit.noGoto_ret]
        go_ret
        exact HBAD.out HX.out _ HGE.out
      have HK0 : Hid (0 ≤ (L j).c ∧ (L j).c < (N : Int)) := by unfold Hid; omega
      have HK2 : Hid (0 < (L j).b ∧ ∀ k, k + 1 = j → (L k).b ≤ (L j).b) := Classical.byContradiction fun h => k2 ((HM.out (L j).b).2 h)
      by_cases hT : ¬ inT (L j)
      · have HX : Hid (¬ okAt L (N : Int) j) := fun h => hT h.tm
        have HT := Lib.hid hT
        clear hT
        go_wp2_with (go_at_call 74; (with_reducible refine (CT.out _).mono ?_); rintro e wt ⟨⟨bt, rfl, hbt⟩, hgt⟩; obtain rfl : bt = false := (Bool.eq_false_iff.2 fun h => HT.out (hbt.1 h)); have HGT := Lib.hid hgt; clear hbt hgt)
        try rw [Exit.noGoto_ret]
        go_ret
        exact HBAD.out HX.out _ (HGE.out.trans HGT.out)
      have HT : Hid (inT (L j)) := Classical.byContradiction hT
      clear hT
      go_upto_region 10 with (go_at_call 74; (with_reducible refine (CT.out _).mono ?_); rintro e wt ⟨⟨bt, rfl, hbt⟩, hgt⟩; obtain rfl : bt = true := hbt.2 HT.out; have HGT := Lib.hid hgt; clear hbt hgt)
      have HGE2 : Hid (Grow w wt) := HGE.out.trans HGT.out
      have HBE2 := Lib.hid (HBE.out.grow HGT.out)
      obtain ⟨cn, hcn⟩ := Int.eq_ofNat_of_zero_le (show 0 ≤ (L j).c by omega)
      have hcN : cn < N := by omega
      have hc6 : (cn : Int) < 6 := by omega
      have q0 := HGT.out.cellN s0 id
      have q3 := HGT.out.cellN s11 id
      have q5 := HGT.out.cellN s13 id
      have qb := HBE2.out.cell cn
      rw [six6_get B (by omega)] at qb
      rw [hcn] at q0
      have HCN := Lib.hid hcn
      have HC6 : Hid (cn < 6) := by unfold Hid; omega
      clear s0 s1 s2 s3 s4 s5 s6 s7 s8 s9 s10 s11 s12 s13 hcn k0 k1 k2 CT HGE HBE
      have u0 := up_cell (F := fun _ => False) (w := wt.drew) q0 id
      have u3 := up_cell (F := fun _ => False) (w := wt.drew) q3 id
      have ub := up_cell (F := fun _ => False) (w := wt.drew) qb id
      refine wp_region_stages Grow (kept_refl _) (kept_trans _) [] [0, 1, 2, 3, 4, 5, 6, 7] (by kernel_rfl) (by kernel_rfl) ?_
      simp only [selSt, sel, List.map_cons, List.map_nil, List.getD_cons_succ, List.getD_cons_zero]
      refine st_nil fun K2 hK2 => ?_
      repeat (go_big_quiet_step (fail))
      refine wpQuiet_nil (hK2 _ ?_)
      clear hK2 K2 u0 u3 ub
      have HFR := Lib.hid (HBZ.out.free (N := (N : Int)) HCN.out HK2.out.1 HR.out.2.1.2 HOK.out)
      by_cases hb : (L j).b ≤ B cn
      · have HX : Hid (¬ okAt L (N : Int) j) := fun h => (HFR.out.2 h.busy) hb
        go_wp2
        try rw [Exit.noGoto_ret]
        go_ret
        exact HBAD.out HX.out _ HGE2.out.drew
      · have HOKJ : Hid (okAt L (N : Int) j) := ⟨HK0.out, HK2.out.1, HK2.out.2, HT.out, HFR.out.1 hb⟩
        have HNX := Lib.hid (HBZ.out.next HCN.out HOKJ.out HR.out.2.1.2)
        go_upto_region 12 with (fail)
        have HFN : Hid (f ≠ g) := fun e => by have := HFG.out; have := HNB.out.lt; omega
        have u0 := up_cell (F := fun x => x = g) (w := wt.drew.drew) (p := ⟨f, 0, none⟩) q0 HFN.out
        have u3 := up_cell (F := fun x => x = g) (w := wt.drew.drew) (p := ⟨f, 11, none⟩) q3 HFN.out
        have u5 := up_cell (F := fun x => x = g) (w := wt.drew.drew) (p := ⟨f, 13, none⟩) q5 HFN.out
        refine wp_region_stages (Kept (fun x => x = g)) (kept_refl _) (kept_trans _) [([0, 1, 2, 3, 4, 5, 6, 7], 8)] [] (by kernel_rfl) (by kernel_rfl) ?_
        simp only [selSt, sel, List.map_cons, List.map_nil, List.getD_cons_succ, List.getD_cons_zero]
        refine st_cons fun K1 hK1 => ?_
        repeat (go_big_quiet_step (fail))
        refine wpQuiet_nil ?_
        clear u0 u3 u5
        have qc : wt.drew.drew.cell? ⟨g, cn, none⟩ = some (.int .i64 (B cn)) := qb
        have qf : wt.drew.drew.frozen? ⟨g, cn, none⟩ = false := HBE2.out.frozen cn
        have HB3 : Hid (Blk (wt.setCell ⟨g, cn, none⟩ (.int .i64 (L j).e)).drew.drew g 102 (six6 (upB B cn (L j).e))) := by
          have := Blk.set (w := wt.drew.drew) (show Blk wt.drew.drew g 102 (six6 B) from HBE2.out) cn (.int .i64 (L j).e)
          rw [six6_set B HC6.out] at this
          exact this
        have HK3 : Hid (Kept (fun x => x = g) wt.drew.drew (wt.setCell ⟨g, cn, none⟩ (.int .i64 (L j).e)).drew.drew) := kept_set wt.drew.drew g cn _
        go_wp2
        clear q0 q3 q5 qb qc qf
        generalize (wt.setCell ⟨g, cn, none⟩ (.int .i64 (L j).e)).drew.drew = w3 at HB3 HK3 ⊢
        refine norm_up (hK1 _ _ HK3.out (st_nil fun K2 hK2 => wpQuiet_nil (hK2 _ ?_)))
        clear hK1 K1 hK2 K2
        have HG3 : Hid (Grow w w3) := HGE2.out.drew.drew.then HK3.out fun k hk (e : k = g) => by have := HGS.out; omega
        have HB4 := Lib.hid ((((HNB.out.grow HGT.out).drew).drew).kept HK3.out HFN.out)
        have q0 := HB4.out.cell 0
        have q5 := HB4.out.cell 13
        simp only [List.getElem?_cons_zero, List.getElem?_cons_succ] at q0 q5
        rw [HCN.out] at q0
        have HMJ : Hid (∀ b : Int, b < (L j).b ↔ ¬ (0 < b ∧ ∀ k, k + 1 = j + 1 → (L k).b ≤ b)) := fun b => by
          have h0 := HK2.out.1
          constructor
          · intro h h2
            have := h2.2 j rfl
            omega
          · intro h
            refine Classical.byContradiction fun h2 => h ⟨by omega, fun k hk => ?_⟩
            obtain rfl : k = j := by omega
            omega
        have HALL : Hid (∀ k, k < j + 1 → okAt L (N : Int) k) := fun k hk => by
          by_cases e : k = j
          · subst e; exact HOKJ.out
          · exact HOK.out k (by omega)
        by_cases he : (L j).e = 0
        · have qf : w3.frozen? ⟨g, cn, none⟩ = false := HB3.out.frozen cn
          have qc : w3.cell? ⟨g, cn, none⟩ = some (.int .i64 (upB B cn (L j).e cn)) := by rw [HB3.out.cell, six6_get _ HC6.out]
          rw [he] at q5
          have HBF : Hid (Blk (w3.setCell ⟨g, cn, none⟩ (.int .i64 9223372036854775807)) g 102 (six6 (upB B cn (endOf (L j).e)))) := by
            have := HB3.out.set cn (.int .i64 9223372036854775807)
            rw [six6_set _ HC6.out] at this
            have e : upB (upB B cn (L j).e) cn 9223372036854775807 = upB B cn (endOf (L j).e) := by
              funext i
              unfold upB endOf
              rw [if_pos he]
              split <;> rfl
            rw [e] at this
            exact this
          have HKF := Lib.hid (kept_set w3 g cn (.int .i64 9223372036854775807))
          clear he
          go_wp2
          go_roundg (gk - 1)
          case measure => have := HG.out; have := HJ.out; omega
          case rel => exact ⟨j + 1, (L j).b, _, by have := HG.out; have := HJ.out; omega, rfl, rfl, by go_num, HBF.out, HG3.out.then HKF.out fun k hk (e : k = g) => by have := HGS.out; omega, HALL.out, HNX.out, HMJ.out⟩
        · have he' : ((L j).e == 0) = false := by simpa using he
          have e : upB B cn (endOf (L j).e) = upB B cn (L j).e := by unfold endOf; rw [if_neg he]
          rw [e] at HNX
          clear he
          go_wp2
          go_roundg (gk - 1)
          case measure => have := HG.out; have := HJ.out; omega
          case rel => exact ⟨j + 1, (L j).b, _, by have := HG.out; have := HJ.out; omega, rfl, rfl, by go_num, HB3.out, HG3.out, HALL.out, HNX.out, HMJ.out⟩
    · have hjN : j = n := by have := HG.out; omega
      subst hjN
      clear hj
      go_wp2
      try rw [Exit.noGoto_ret]
      go_ret
      exact ⟨0, rfl, .inl ⟨rfl, HOK.out⟩, HGR.out⟩
end
#print axioms byThem_any
end Go.Proofs.Ytjdlpknflhgkfaa.HsL
