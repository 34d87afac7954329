/-
  For every input the call of lavabolaw14.HistSerial returns true and leaves its arguments as they were; no condition.
-/
import Derived.Test.YtjdlpknflhgkfaaTold14
import Derived.Test.YtjdlpknflhgkfaaHsRow
import Derived.Test.YtjdlpknflhgkfaaMdNear
import Derived.Test.YtjdlpknflhgkfaaMdCalls
import Derived.Test.YtjdlpknflhgkfaaRows
import Derived.WalkKit
import Derived.ProofKit
import Derived.OpenShut
import Derived.ShutString
import Derived.ChangeOld
import Derived.Below
namespace Go.Proofs.Ytjdlpknflhgkfaa.histSerial
open Go.ChangeShapes Go.WideShapes Go.ChangeAt Go.RowKit
open Go.ChangeMaps (open_string shut_string)
open Go.Proofs.Ytjdlpknflhgkfaa.Mem Go.Proofs.Ytjdlpknflhgkfaa.Blk Go.Proofs.Ytjdlpknflhgkfaa.Cells Go.Proofs.Ytjdlpknflhgkfaa.Orow Go.Proofs.Ytjdlpknflhgkfaa.MdM Go.Proofs.Ytjdlpknflhgkfaa.MdC Go.Proofs.Ytjdlpknflhgkfaa.MdD Go.Proofs.Ytjdlpknflhgkfaa.MdNear Go.Proofs.Ytjdlpknflhgkfaa.HsM Go.Proofs.Ytjdlpknflhgkfaa.HsE Go.Proofs.Ytjdlpknflhgkfaa.HsB Go.Proofs.Ytjdlpknflhgkfaa.HsO Go.Proofs.Ytjdlpknflhgkfaa.HsK Go.Proofs.Ytjdlpknflhgkfaa.HsT Go.Proofs.Ytjdlpknflhgkfaa.HsW Go.Proofs.Ytjdlpknflhgkfaa.HsR Go.Proofs.Ytjdlpknflhgkfaa.PmM Go.Proofs.Ytjdlpknflhgkfaa.PmC Go.Proofs.Ytjdlpknflhgkfaa.PmF Go.Proofs.Ytjdlpknflhgkfaa.PmN Go.Proofs.Ytjdlpknflhgkfaa.Calls13 Go.Proofs.Ytjdlpknflhgkfaa.Told14 Go.Proofs.Ytjdlpknflhgkfaa.Stages
set_option linter.unusedVariables false

theorem own : ownKnob Try.prog.godebug = none := by kernel_rfl
theorem laidOut : laidOutB Try.prog = true := by kernel_rfl

theorem bytes_take {w w' : World} {F : Nat → Prop} {A : Option Addr} {len cap l' : Nat} (h : BytesAt w A len cap) (hl : l' ≤ len) (hk : Kept F w w') (hF : ∀ k, k < w.heap.size → ¬ F k) : BytesAt w' A l' cap ∧ (0 < l' → ∀ x, A = some x → x.block < w.heap.size) := by
  obtain ⟨d, hs, hb, h1, h2⟩ := h
  refine ⟨⟨d.take l', ⟨by rw [List.length_take, hs.len]; omega, fun h0 => ?_⟩, fun z hz => hb z (List.mem_of_mem_take hz), by omega, h2⟩, fun h0 x hx => ?_⟩
  · obtain ⟨b, off, rfl, hlt, hc⟩ := hs.at_ (by omega)
    refine ⟨b, off, rfl, Nat.lt_of_lt_of_le hlt hk.size, fun j hj => ?_⟩
    rw [show (d.take l').getD j 0 = d.getD j 0 by simp [List.getD_eq_getElem?_getD, List.getElem?_take, hj]]
    exact hk.cellN (hc j (by omega)) (hF b hlt)
  · obtain ⟨b, off, e, hlt, hc⟩ := hs.at_ (by omega)
    rw [hx] at e
    injection e with e
    rw [e]
    exact hlt
theorem call_box (w : World) (c k p h o n s : Value) : Grow w (w.alloc (.cells #[c, k, p, h, o, n, s] 55)) ∧ Blk (w.alloc (.cells #[c, k, p, h, o, n, s] 55)) w.heap.size 55 [c, k, p, h, o, n, s] := ⟨(Kept.refl _ _).alloc _, Blk.new w _ [c, k, p, h, o, n, s]⟩
/-- Calls one behind the other, each with what the model tells. -/
structure Ser (L : Nat → Ev) (j : Nat) (a : Md) : Prop where
  c : ∀ i, i < j → 0 ≤ (L i).c ∧ (L i).c < 3
  b : ∀ i, i < j → (L i).b = 3 * (i : Int) + 1
  s : ∀ i, i < j → (L i).s = 3 * (i : Int) + 2
  e : ∀ i, i < j → (L i).e = 3 * (i : Int) + 3
  run : runL L (List.range j) (fresh 5 3) = (0, a)
theorem ser_zero (L : Nat → Ev) : Ser L 0 (fresh 5 3) := ⟨fun i h => absurd h (Nat.not_lt_zero i), fun i h => absurd h (Nat.not_lt_zero i), fun i h => absurd h (Nat.not_lt_zero i), fun i h => absurd h (Nat.not_lt_zero i), rfl⟩
theorem ser_next {L : Nat → Ev} {j : Nat} {a U : Md} {x : Ev} (h : Ser L j a) (hc : 0 ≤ x.c ∧ x.c < 3) (hb : x.b = 3 * (j : Int) + 1) (hs : x.s = 3 * (j : Int) + 2) (he : x.e = 3 * (j : Int) + 3) (hr : a.run x.c x.o = (x.r, U)) : Ser (updE L j x) (j + 1) U := by
  have sel : ∀ (P : Nat → Ev → Prop), (∀ i, i < j → P i (L i)) → P j x → ∀ i, i < j + 1 → P i (updE L j x i) := fun P h1 h2 i hi => by
    by_cases e : i = j
    · subst e; rw [updE_at]; exact h2
    · rw [updE_lt (by omega)]; exact h1 i (by omega)
  refine ⟨sel (fun i y => 0 ≤ y.c ∧ y.c < 3) h.c hc, sel (fun i y => y.b = 3 * (i : Int) + 1) h.b hb, sel (fun i y => y.s = 3 * (i : Int) + 2) h.s hs, sel (fun i y => y.e = 3 * (i : Int) + 3) h.e he, ?_⟩
  rw [List.range_succ]
  have h1 : runL (updE L j x) (List.range j) (fresh 5 3) = (0, a) := by
    rw [runL_congr (L := L) _ _ fun i hi => updE_lt (List.mem_range.1 hi)]
    exact h.run
  rw [runL_append _ _ _ _ h1, runL_some (a' := U) (by rw [updE_at]; have := step_yes (a := a) (x := x) (.inr (by rw [hr])); rw [hr] at this; exact this), runL_nil]
theorem ser_fin {L : Nat → Ev} {n : Nat} {a : Md} (h : Ser L n a) : Fin L n 5 3 a := by
  refine ⟨by unfold okN; omega, .inl ⟨rfl, fun i hi => ⟨h.c i hi, by rw [h.b i hi]; omega, fun k hk => by rw [h.b i hi, h.b k (by omega)]; omega, ?_, fun k hk _ => by rw [h.b i hi, h.e k (by omega)]; omega⟩⟩, List.range n, ⟨fun i => ⟨fun hi => ⟨List.mem_range.1 hi, by rw [h.s i (List.mem_range.1 hi)]; omega⟩, fun hi => List.mem_range.2 hi.1⟩, ?_⟩, h.run⟩
  · unfold inT inTn
    rw [if_pos (by rw [h.e i hi]; omega), h.b i hi, h.s i hi, h.e i hi]
    omega
  · refine List.Pairwise.imp_of_mem (R := fun a b => a < b) (fun {i j} hi hj hij => ?_) List.pairwise_lt_range
    refine .inl ?_
    rw [h.s i (List.mem_range.1 hi), h.s j (List.mem_range.1 hj)]
    omega
/-- The state's box is m; the row is v. -/
def SLoop (w : World) (m : Nat) (gx M : Nat) (v4 v5 : Value) (wx : World) : Prop :=
  ∃ (j : Nat) (a : Md) (L : Nat → Ev) (Q : Nat → Ad), j + gx = M ∧ v5 = .int .i64 (j : Int) ∧ j ≤ 50 ∧ SB wx m m a ∧ HRow wx w.heap.size (fun k => k ≠ m) v4 j L Q ∧ Ser L j a ∧ Grow w wx
set_option maxHeartbeats 8000000 in
set_option maxRecDepth 100000 in
theorem walk (a0 : Option Addr) (len0 cap0 : Nat) (w : World) (w0 : CallsAt w a0 len0 cap0) :
    Calls Try.prog 8 #[.slice a0 len0 cap0] w fun e w' => e = .returned (.bool true) ∧ Below w.heap.size w w' := by
  obtain ⟨hlc, hcm, hops⟩ := w0
  unfold maxLen at hcm
  have HOPS := Lib.hid hops
  clear hops
  have CN := Lib.hid (new_any 5 3 (by omega) (by omega) (by omega) (by omega) w)
  simp only [Int.cast_ofNat_Int] at CN
  go_enter Try.func8, Try.ntmps8
  go_upto_region 2 with (go_at_call 25; (with_reducible refine CN.out.mono ?_); rintro e w1 ⟨v1, rfl, hpa, hg⟩; obtain ⟨AT, cT, AB, cB, AH, cH, rfl⟩ := pat_form hpa; have HPA := Lib.hid hpa; have HG1 := Lib.hid hg; clear hpa hg)
  obtain ⟨hsb, hg2⟩ := sb_new HPA.out
  obtain ⟨m, hm⟩ : ∃ m, m = w1.heap.size := ⟨_, rfl⟩
  have HGM : Hid (w.heap.size ≤ m) := by have := HG1.out.size; show w.heap.size ≤ m; omega
  rw [← hm] at hsb ⊢
  generalize w1.alloc (.cells #[.slice AT (fresh 5 3).n cT, .slice AB (fresh 5 3).n cB, .slice AH (fresh 5 3).N cH] 39) = w2 at hsb hg2 ⊢
  have HSB := Lib.hid hsb
  have HG2 : Hid (Grow w w2) := HG1.out.trans hg2
  clear hm hsb hg2 HPA HG1 CN
  go_wp2
  go_loopg [4, 5] len0 (fun gx v4 v5 wx => SLoop w m gx len0 v4 v5 wx)
  case atStart => exact ⟨0, _, fun _ => ⟨0, ⟨0, 0, 0, 0, 0, []⟩, ⟨0, 0, 0, []⟩, 0, 0, 0⟩, fun _ => ⟨none, 0, 0, none, 0, 0⟩, by omega, rfl, by omega, HSB.out, HRow.nil _ _ _ _ _, ser_zero _, HG2.out⟩
  case round =>
    clear HSB HG2
    obtain ⟨j, a, L, Q, hg, rfl, hj50, hsb, hrow, hser, hgr⟩ := hrel
    have HG := Lib.hid hg
    have HSB := Lib.hid hsb
    obtain ⟨A0, c0, rfl, hc0a, hc0b⟩ := hrow.slice
    have HROW := Lib.hid hrow
    clear hc0a hc0b
    have HSER := Lib.hid hser
    have HGR := Lib.hid hgr
    clear hg hsb hrow hser hgr
    have hjb : (j : Int) ≤ 50 := by omega
    by_cases hj : j < len0
    · by_cases hj5 : j < 50
      · have hjz : (j : Int) < (len0 : Int) := by omega
        have hj6 : (j : Int) < 50 := by omega
        have HJ := Lib.hid hj
        have HJ5 := Lib.hid hj5
        obtain ⟨ab, ao, rfl, hab, hall⟩ := HOPS.out (by omega)
        obtain ⟨x, hx⟩ := hall j hj
        have HX := Lib.hid hx
        have cc := HGR.out.cellN hx.c id
        have ck := HGR.out.cellN hx.k id
        have cp := HGR.out.cellN hx.p id
        have ch := HGR.out.cellN hx.h id
        have co := HGR.out.cellN hx.o id
        have cn := HGR.out.cellN hx.n id
        have cd := HGR.out.cellN hx.d id
        clear hall hx hj hj5 hab
        by_cases h40 : 40 < x.len
        · have h40y : (40 : Int) < (x.len : Int) := by omega
          go_wp2_with (go_at_call 10; (with_reducible refine (told_any _).mono ?_); rintro e wt ⟨rfl, hge⟩; have HGE := Lib.hid hge; clear hge)
          go_ret
          exact ⟨rfl, Grow.below (HGR.out.trans HGE.out)⟩
        have h40y : (x.len : Int) ≤ 40 := by omega
        have HNEAR : Hid (∀ wx, Calls Try.prog 26 #[.agg #[.int .i64 x.c, .int .i64 x.k, .int .i64 x.p, .int .i64 x.h, .int .i64 x.o, .int .i64 x.n, .slice x.A x.len x.cap], .int .i64 5, .int .i64 3] wx (NearP 5 3 x.A x.len x.cap wx)) := fun wx => near_any x.c x.k x.p x.h x.o x.n x.A x.len x.cap 5 3 (by omega) (by omega) (by omega) (by omega) (by obtain ⟨d, _, _, h, _⟩ := HX.out.da; exact h) wx
        clear h40
        go_upto_region 9 with (go_at_call 26; (with_reducible refine (HNEAR.out _).mono ?_); rintro e wn ⟨c', k', p', h', o', n', l', rfl, hr1, hr2, hr3, hr4, hr5, hr6, hr7, hl, hg⟩; have HNR := Lib.hid (And.intro hr6 (And.intro hl hr1)); have HGN := Lib.hid hg; clear hg hr1 hr2 hr3 hr4 hr5 hr6 hr7 hl)
        obtain ⟨hgc, hnb⟩ := call_box wn (.int .i64 (c' : Int)) (.int .i64 (k' : Int)) (.int .i64 (p' : Int)) (.int .i64 (h' : Int)) (.int .i64 (o' : Int)) (.int .i64 (n' : Int)) (.slice x.A l' x.cap)
        generalize wn.alloc (.cells #[.int .i64 (c' : Int), .int .i64 (k' : Int), .int .i64 (p' : Int), .int .i64 (h' : Int), .int .i64 (o' : Int), .int .i64 (n' : Int), .slice x.A l' x.cap] 55) = wc at hgc hnb ⊢
        generalize wn.heap.size = gc at hnb ⊢
        have HG2 : Hid (Grow wr wc) := HGN.out.trans hgc
        obtain ⟨⟨d, hd, hdb, hl1, hl2⟩, hdx⟩ := bytes_take (l' := l') HX.out.da (by have h := HNR.out.2.1; rw [h]; exact Nat.min_le_left _ _) (HGR.out.trans HG2.out) (fun _ _ h => h)
        obtain ⟨ST, nT, kT, SB', nB, kB, SH, nH, kH, hsb, hsp⟩ := HSB.out.grow HG2.out
        obtain ⟨rc, rp, rh, rd, U, hr⟩ : ∃ rc rp rh rd U, a.run (c' : Int) ⟨(k' : Int), (p' : Int), (h' : Int), (o' : Int), (n' : Int), d⟩ = (⟨rc, rp, rh, rd⟩, U) := ⟨_, _, _, _, _, rfl⟩
        have HDO := Lib.hid (t_do hsp (c' : Int) (k' : Int) (p' : Int) (h' : Int) (o' : Int) (n' : Int) hd hdb hl1 hl2 (by have := HNR.out.1; omega) hr)
        have HR := Lib.hid hr
        have HMB := Lib.hid hsb
        have HCB := Lib.hid hnb
        have HD := Lib.hid hd
        have HDB := Lib.hid hdb
        have HDX := Lib.hid hdx
        have HDL := Lib.hid (And.intro hl1 hl2)
        have HGA := Lib.hid hsp.good
        have s0 := hsb.cell 0
        have s1 := hsb.cell 1
        have s2 := hsb.cell 2
        have y0 := hnb.cell 0
        have y1 := hnb.cell 1
        have y2 := hnb.cell 2
        have y3 := hnb.cell 3
        have y4 := hnb.cell 4
        have y5 := hnb.cell 5
        have y6 := hnb.cell 6
        simp only [List.getElem?_cons_zero, List.getElem?_cons_succ] at s0 s1 s2 y0 y1 y2 y3 y4 y5 y6
        clear hgc hnb hd hdb hl1 hl2 hdx hsb hsp hr cc ck cp ch co cn cd
        go_upto_region 10 with (go_at_call 27; (with_reducible refine HDO.out.mono ?_); rintro e wd ⟨XT, mT, jT, XB, mB, jB, XH, mH, jH, RA, rn, rcap, rfl, hpa, hre, hgd⟩; have HPD := Lib.hid hpa; have HRE := Lib.hid hre; have HGD := Lib.hid hgd; clear hpa hre hgd)
        clear s0 s1 s2 y0 y1 y2 y3 y4 y5 y6
        obtain ⟨ht1, ht2, hgt⟩ := two_box wd (.slice XT mT jT) (.slice XB mB jB) (.slice XH mH jH) (.int .i64 rc) (.int .i64 rp) (.int .i64 rh) (.slice RA rn rcap)
        generalize (wd.alloc (.cells #[.slice XT mT jT, .slice XB mB jB, .slice XH mH jH] 39)).alloc (.cells #[.int .i64 rc, .int .i64 rp, .int .i64 rh, .slice RA rn rcap] 27) = u at ht1 ht2 hgt ⊢
        obtain ⟨q, hq⟩ : ∃ q, q = wd.heap.size := ⟨_, rfl⟩
        rw [← hq] at ht1 ht2 ⊢
        have HGU : Hid (Grow wr u) := (HG2.out.trans HGD.out).trans hgt
        have HSZ : Hid (m < wc.heap.size ∧ wc.heap.size ≤ q) := ⟨HMB.out.lt, by have := HGD.out.size; omega⟩
        have HCU := Lib.hid ((HCB.out.grow HGD.out).grow hgt)
        have HMU := Lib.hid ((HMB.out.grow HGD.out).grow hgt)
        have HQU := Lib.hid ht1
        have HPU := Lib.hid (HPD.out.grow hgt)
        have HRU := Lib.hid (HROW.out.grow HGU.out)
        have HDU := Lib.hid (sl_grow (sl_grow HD.out HGD.out) hgt)
        have HAU := Lib.hid (sl_grow HRE.out.1 hgt)
        have HRB : Hid (Bytes rd) := by
          have hb := run_bytes HGA.out (c' : Int) ⟨(k' : Int), (p' : Int), (h' : Int), (o' : Int), (n' : Int), d⟩
          rw [HR.out] at hb
          exact hb
        have HRL : Hid (rn ≤ 16) := by
          have hb := run_dlen HGA.out (c' : Int) ⟨(k' : Int), (p' : Int), (h' : Int), (o' : Int), (n' : Int), d⟩
          rw [HR.out] at hb
          have := HRE.out.1.len
          show rn ≤ 16
          rw [← this]; exact hb
        have y0 := HCU.out.cell 0
        have y1 := HCU.out.cell 1
        have y2 := HCU.out.cell 2
        have y3 := HCU.out.cell 3
        have y4 := HCU.out.cell 4
        have y5 := HCU.out.cell 5
        have y6 := HCU.out.cell 6
        have r0 := ht2.cell 0
        have r1 := ht2.cell 1
        have r2 := ht2.cell 2
        have r3 := ht2.cell 3
        simp only [List.getElem?_cons_zero, List.getElem?_cons_succ] at y0 y1 y2 y3 y4 y5 y6 r0 r1 r2 r3
        clear ht1 ht2 hgt HSB hq
        obtain ⟨xe, hxe⟩ : ∃ xe : Ev, xe = ⟨(c' : Int), ⟨(k' : Int), (p' : Int), (h' : Int), (o' : Int), (n' : Int), d⟩, ⟨rc, rp, rh, rd⟩, 3 * (j : Int) + 1, 3 * (j : Int) + 2, 3 * (j : Int) + 3⟩ := ⟨_, rfl⟩
        obtain ⟨ad, had⟩ : ∃ ad : Ad, ad = ⟨x.A, l', x.cap, RA, rn, rcap⟩ := ⟨_, rfl⟩
        have HSE : Hid (Ser (updE L j xe) (j + 1) U) := by rw [hxe]; exact ser_next HSER.out (by have := HNR.out.2.2; dsimp only; omega) rfl rfl rfl HR.out
        have hgv : Grow u (u.alloc (.cells (evq xe ad).toArray 29)) := (Kept.refl _ _).alloc _
        have hbv := Blk.new u 29 (evq xe ad)
        have hqv : EvQ (u.alloc (.cells (evq xe ad).toArray 29)) (fun k => (Value.slice A0 j c0).ownBlock ≠ some k ∧ k ≠ m) xe ad := by
          rw [hxe, had]
          refine ⟨sl_grow HDU.out ((Kept.refl _ _).alloc _), HDB.out, HDL.out, sl_grow HAU.out ((Kept.refl _ _).alloc _), HRB.out, by unfold maxLen; have := HRL.out; dsimp only; omega, by have := HNR.out.1; have := HJ5.out; unfold Rng I64; dsimp only; omega, fun h0 y hy => ?_, fun h0 y hy => ?_⟩
          · have h1 := HDX.out h0 y hy
            exact ⟨fun e => by have := (HRU.out.own e).1; omega, by have := HGM.out; omega⟩
          · have h1 : wc.heap.size ≤ y.block := HRE.out.2.1 h0 y hy
            exact ⟨fun e => by have h2 := (HROW.out.own e).2; have h3 := HG2.out.size; omega, by have := HSZ.out; omega⟩
        obtain ⟨gr, cap, w7, hrr, hrow, hk7, hg7⟩ := HRow.push 30 (HRU.out.grow hgv) (by omega) u.heap.size 1 (x := xe) (d := ad) (fun i y hy => by rw [hbv.cell]; exact hy) hqv (by have := HGR.out.size; have := HGU.out.size; have := hgv.size; omega)
        have HRR := Lib.hid hrr
        have HG7X := Lib.hid hg7
        have HRW := Lib.hid hrow
        have HK7 := Lib.hid hk7
        have HOWN : Hid (∀ k, (Value.slice A0 j c0).ownBlock = some k → w.heap.size ≤ k ∧ k < wr.heap.size ∧ k ≠ m) := fun k hk => by
          have h1 := HROW.out.own hk
          refine ⟨h1.1, h1.2, fun e => ?_⟩
          rcases HRU.out.form with ⟨e2, _⟩ | ⟨g2, c2, e2, ho2, _⟩
          · rw [e2] at hk; cases hk
          · rw [e2] at hk
            injection hk with hk
            exact blk_row HMU.out ho2 (by decide) (by rw [← e, ← hk])
        rw [hxe, had] at HRR
        dsimp only [evq, evl] at HRR
        have HXE := Lib.hid hxe
        have HAD := Lib.hid had
        clear hgv hbv hqv hrr hrow hk7 hg7 HDO hxe had
        go_upto_region 11 with (at_builtin; refine Lib.wpList_append_run _ rfl _ _ _ _ rfl _ _ rfl rfl _ _ HRR.out ?_)
        have HUV : Hid (Grow u (u.alloc (.cells (evq xe ad).toArray 29))) := (Kept.refl _ _).alloc _
        have HNO : Hid (∀ k, wr.heap.size ≤ k → ¬ (Value.slice A0 j c0).ownBlock = some k) := fun k hk e => by have := HOWN.out k e; omega
        have HQ7 := Lib.hid ((HQU.out.grow HUV.out).kept HK7.out (HNO.out q (by have := HSZ.out; have := HG2.out.size; omega)))
        have HM7 := Lib.hid ((HMU.out.grow HUV.out).kept HK7.out (fun e => (HOWN.out m e).2.2 rfl))
        have HP7 : Hid (PAt w7 (fun k => k ≠ m) (.agg #[.slice XT mT jT, .slice XB mB jB, .slice XH mH jH]) U) := ((HPU.out.grow HUV.out).kept HK7.out (fun k (hk : wc.heap.size ≤ k) => HNO.out k (by have := HG2.out.size; omega))).mono fun k _ (hk : wc.heap.size ≤ k) => by have := HSZ.out; omega
        have HGN7 : Hid (gr ≠ m) := fun e => by
          have h1 := HMU.out.lt
          have h2 := HUV.out.size
          have h3 : (Value.slice A0 j c0).ownBlock = some gr → False := fun h => (HOWN.out gr h).2.2 e
          have h4 : gr = (u.alloc (.cells (evq xe ad).toArray 29)).heap.size → False := fun h => by omega
          exact HG7X.out.elim h3 h4
        have HG7 : Hid (Grow w w7) := (HGR.out.trans (HGU.out.trans HUV.out)).then HK7.out fun k hk e => by have := (HOWN.out k e).1; omega
        have q0 := HQ7.out.cell 0
        have q1 := HQ7.out.cell 1
        have q2 := HQ7.out.cell 2
        have m0 := HM7.out.cell 0
        have m1 := HM7.out.cell 1
        have m2 := HM7.out.cell 2
        have mf := HM7.out.frozenAll
        simp only [List.getElem?_cons_zero, List.getElem?_cons_succ] at q0 q1 q2 m0 m1 m2
        have HPUT := Lib.hid (sb_put HP7.out HM7.out)
        clear y0 y1 y2 y3 y4 y5 y6 r0 r1 r2 r3
        go_wp2
        go_roundg (gk - 1)
        case measure => have := HG.out; have := HJ.out; omega
        case rel =>
          exact ⟨j + 1, U, _, _, by have := HG.out; have := HJ.out; omega, by go_num, by have := HJ5.out; omega, HPUT.out.1, HRW.out.kept HPUT.out.2 (fun k hk (e : k = m) => by injection hk with hk; exact HGN7.out (hk.trans e)) (fun k _ _ hy e => hy e), HSE.out, HG7.out.then HPUT.out.2 fun k hk (e : k = m) => by have := HGM.out; omega⟩
      · have hjz : (j : Int) < (len0 : Int) := by omega
        obtain rfl : j = 50 := by omega
        simp only [Int.cast_ofNat_Int] at hjz hjb ⊢
        clear hj hj5
        have HEV := Lib.hid (HROW.out.evs rfl)
        have HFI := Lib.hid (ser_fin HSER.out)
        have CF := Lib.hid (final_any HEV.out (by omega) 5 3 c0)
        have CK : Hid (∀ wx, Grow wr wx → Calls Try.prog 11 #[.slice A0 50 c0, .int .i64 5, .int .i64 3] wx (Told14.Told 0 wx)) := fun wx hg => t_check (HEV.out.grow hg) (by omega) (fin_chk HFI.out) c0
        go_upto_region 13 with (go_at_call 13; (with_reducible refine CF.out.mono ?_); rintro e w3 ⟨X1, n1, c1, X2, n2, c2, X3, n3, c3, b1, rfl, hb, hs, hg⟩; obtain rfl : b1 = true := hb.2 ⟨_, HFI.out⟩; have HP := Lib.hid (hs _ HFI.out); have HG3 := Lib.hid hg; clear hb hs hg)
        obtain ⟨hbs, hgs⟩ := st_box w3 (.slice X1 n1 c1) (.slice X2 n2 c2) (.slice X3 n3 c3)
        generalize w3.alloc (.cells #[.slice X1 n1 c1, .slice X2 n2 c2, .slice X3 n3 c3] 39) = w4 at hbs hgs ⊢
        generalize w3.heap.size = gs at hbs ⊢
        have HG4 : Hid (Grow wr w4) := HG3.out.trans hgs
        have HP4 := Lib.hid (HP.out.grow hgs)
        have HBS := Lib.hid hbs
        obtain ⟨ST, nT, kT, SB', nB, kB, SH, nH, kH, hsb, hsp⟩ := HSB.out.grow HG4.out
        have HSP := Lib.hid hsp
        have HMB := Lib.hid hsb
        clear hbs hgs hsb hsp
        go_wp2_with (first
          | (go_at_call 10; (with_reducible refine (told_any _).mono ?_); rintro e wt ⟨rfl, hge⟩; have HGE := Lib.hid hge; clear hge)
          | (go_at_call 11; (with_reducible refine (CK.out _ (HG4.out.trans HGE.out)).mono ?_); rintro e wk ⟨rfl, hge⟩; have HGK := Lib.hid (HGE.out.trans hge); have h5 := HBS.out.grow HGK.out; have h6 := HMB.out.grow HGK.out; have x0 := h5.cell 0; have x1 := h5.cell 1; have x2 := h5.cell 2; have z0 := h6.cell 0; have z1 := h6.cell 1; have z2 := h6.cell 2; simp only [List.getElem?_cons_zero, List.getElem?_cons_succ] at x0 x1 x2 z0 z1 z2; clear hge h5 h6)
          | (go_at_call 28; (with_reducible refine (t_same (b := true) (HP4.out.grow HGK.out) (HSP.out.grow HGK.out) ⟨fun _ => same_refl _, fun _ => rfl⟩).mono ?_); rintro e ws ⟨rfl, hge⟩; have HGS := Lib.hid hge; clear hge))
        go_ret
        exact ⟨rfl, Grow.below (((HGR.out.trans HG4.out).trans HGK.out).trans HGS.out)⟩
    · have hjN : j = len0 := by have := HG.out; omega
      subst hjN
      clear hj
      have HEV := Lib.hid (HROW.out.evs rfl)
      have HFI := Lib.hid (ser_fin HSER.out)
      have CF := Lib.hid (final_any HEV.out (by omega) 5 3 c0)
      have CK : Hid (∀ wx, Grow wr wx → Calls Try.prog 11 #[.slice A0 j c0, .int .i64 5, .int .i64 3] wx (Told14.Told 0 wx)) := fun wx hg => t_check (HEV.out.grow hg) (by omega) (fin_chk HFI.out) c0
      go_upto_region 13 with (go_at_call 13; (with_reducible refine CF.out.mono ?_); rintro e w3 ⟨X1, n1, c1, X2, n2, c2, X3, n3, c3, b1, rfl, hb, hs, hg⟩; obtain rfl : b1 = true := hb.2 ⟨_, HFI.out⟩; have HP := Lib.hid (hs _ HFI.out); have HG3 := Lib.hid hg; clear hb hs hg)
      obtain ⟨hbs, hgs⟩ := st_box w3 (.slice X1 n1 c1) (.slice X2 n2 c2) (.slice X3 n3 c3)
      generalize w3.alloc (.cells #[.slice X1 n1 c1, .slice X2 n2 c2, .slice X3 n3 c3] 39) = w4 at hbs hgs ⊢
      generalize w3.heap.size = gs at hbs ⊢
      have HG4 : Hid (Grow wr w4) := HG3.out.trans hgs
      have HP4 := Lib.hid (HP.out.grow hgs)
      have HBS := Lib.hid hbs
      obtain ⟨ST, nT, kT, SB', nB, kB, SH, nH, kH, hsb, hsp⟩ := HSB.out.grow HG4.out
      have HSP := Lib.hid hsp
      have HMB := Lib.hid hsb
      clear hbs hgs hsb hsp
      go_wp2_with (first
        | (go_at_call 10; (with_reducible refine (told_any _).mono ?_); rintro e wt ⟨rfl, hge⟩; have HGE := Lib.hid hge; clear hge)
        | (go_at_call 11; (with_reducible refine (CK.out _ (HG4.out.trans HGE.out)).mono ?_); rintro e wk ⟨rfl, hge⟩; have HGK := Lib.hid (HGE.out.trans hge); have h5 := HBS.out.grow HGK.out; have h6 := HMB.out.grow HGK.out; have x0 := h5.cell 0; have x1 := h5.cell 1; have x2 := h5.cell 2; have z0 := h6.cell 0; have z1 := h6.cell 1; have z2 := h6.cell 2; simp only [List.getElem?_cons_zero, List.getElem?_cons_succ] at x0 x1 x2 z0 z1 z2; clear hge h5 h6)
        | (go_at_call 28; (with_reducible refine (t_same (b := true) (HP4.out.grow HGK.out) (HSP.out.grow HGK.out) ⟨fun _ => same_refl _, fun _ => rfl⟩).mono ?_); rintro e ws ⟨rfl, hge⟩; have HGS := Lib.hid hge; clear hge))
      go_ret
      exact ⟨rfl, Grow.below (((HGR.out.trans HG4.out).trans HGK.out).trans HGS.out)⟩

set_option maxRecDepth 100000 in
theorem lifted (os : Os) (started : os.Started) (H : Type) (enc : TypeId × Value → H) :
    ReturnsInHanded {} Try.checked os 8 .any (Rows.histSerialSpec.pre6 enc Try.prog Try.f8 Rows.histSerialRow.domain false) (Rows.histSerialSpec.post enc Try.prog Try.f8 false true false false) := by
  refine returnsInHanded_of_change (C := Try.checked) own started (by kernel_rfl) Try.func8
    (ChangeSpec.witness6 (enc := enc) (C := Try.checked) false ⟨#[], #[.slice none 0 0], []⟩ 8 (by kernel_rfl) (by kernel_rfl) (by kernel_rfl) (by kernel_rfl)) ?_
  intro W base args ds gs before hval0 hW hcnd _
  have hval : ∀ (j : Nat) t v, Try.f8.params[j]? = some t → args[j]? = some v → Value.okWide Try.prog W .any base t v := hval0
  have hW' := hW
  obtain ⟨p, q, hA0, hV, rfl, hfz, hnd⟩ := hW
  have hA : DataW.TrodAll enc Try.prog W 0 (fun _ => true) true Try.f8.params.toList args.toList ds p := hA0
  rw [Try.params8] at hA hval
  obtain ⟨v0, vs0, d0, ds0, p0, q0, hargs, rfl, rfl, h0, r0⟩ := trodAll_cons hA
  obtain ⟨rfl, rfl, rfl⟩ := trodAll_nil r0
  obtain rfl : args = #[v0] := by cases args; simp_all
  obtain ⟨rfl, rfl⟩ := trodVars_none hV
  obtain ⟨a0, len0, cap0, rfl⟩ := okWide_slice Try.underlying53 (hval 0 53 v0 rfl rfl)
  have k0 := h0
  have lt0 : ∀ x ∈ p0, x.block < W.heap.size := by obtain ⟨m, hm⟩ := k0; exact DataW.trod_lt m _ _ _ hm
  have w0 : CallsAt W a0 len0 cap0 := by obtain ⟨fuel, hf⟩ := h0; exact calls_open hf
  clear hA0 hval0
  refine (walk a0 len0 cap0 W w0).mono fun e W' ⟨he, bel⟩ => ?_
  subst he
  exact ⟨_, rfl, _, _, _, [], _, [], hW', trodAll_mk1 (shut_bool Try.underlying4 _), (trodAll_cons_mk (Below.trod laidOut (by kernel_rfl) (of_decide_eq_true (by kernel_rfl)) k0 bel lt0) trodAll_mk0), rfl, bel.frame _, fun h => by cases h⟩

theorem over : Rows.histSerialRow.holds Try.pinned (OpenSpec.ofChange Rows.histSerialSpec) :=
  OpenClaim.holds_of_wide 8 Try.f8 rfl rfl rfl rfl rfl rfl rfl ⟨rfl, rfl, rfl, rfl, rfl⟩ rfl rfl rfl rfl rfl (by kernel_rfl) Try.func8 (by kernel_rfl)
    (of_decide_eq_true (by kernel_rfl)) (by unfold Func.isWrapper; first | (rw [if_pos (by decide +kernel)]; kernel_rfl) | (rw [if_neg (by decide +kernel)]; exact ⟨rfl, rfl⟩))
    (fun os started H enc _ => lifted os started H enc)

/-- ████ THE STATEMENT ████ -/
theorem proved : Rows.HistSerialSaid := over
#print axioms proved
end Go.Proofs.Ytjdlpknflhgkfaa.histSerial
