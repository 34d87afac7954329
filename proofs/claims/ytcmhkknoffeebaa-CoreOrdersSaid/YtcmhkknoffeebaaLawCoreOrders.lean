/-
  For every input the call of lavabolaw11.CoreOrders returns true and leaves its arguments as they were; no condition.
-/
import Derived.Test.YtcmhkknoffeebaaCoRow
import Derived.Test.YtcmhkknoffeebaaRows
import Derived.WalkKit
import Derived.ProofKit
import Derived.OpenShut
import Derived.ShutString
import Derived.ChangeOld
import Derived.Below
namespace Go.Proofs.Ytcmhkknoffeebaa.coreOrders
open Go.ChangeShapes Go.WideShapes Go.ChangeAt Go.RowKit
open Go.ChangeMaps (open_string shut_string)
open Go.Proofs.Ytcmhkknoffeebaa.Mem Go.Proofs.Ytcmhkknoffeebaa.Blk Go.Proofs.Ytcmhkknoffeebaa.Cells Go.Proofs.Ytcmhkknoffeebaa.Orow Go.Proofs.Ytcmhkknoffeebaa.ListM Go.Proofs.Ytcmhkknoffeebaa.RingA Go.Proofs.Ytcmhkknoffeebaa.RingT Go.Proofs.Ytcmhkknoffeebaa.ArM Go.Proofs.Ytcmhkknoffeebaa.ArC Go.Proofs.Ytcmhkknoffeebaa.ArD Go.Proofs.Ytcmhkknoffeebaa.CoM Go.Proofs.Ytcmhkknoffeebaa.CoC Go.Proofs.Ytcmhkknoffeebaa.CoO Go.Proofs.Ytcmhkknoffeebaa.CoS Go.Proofs.Ytcmhkknoffeebaa.CoW Go.Proofs.Ytcmhkknoffeebaa.Told11 Go.Proofs.Ytcmhkknoffeebaa.Stages
set_option linter.unusedVariables false

theorem own : ownKnob Try.prog.godebug = none := by kernel_rfl
theorem laidOut : laidOutB Try.prog = true := by kernel_rfl

/-- WHAT THE WALK IS TOLD OF A SLICE OF INTEGERS THAT CAME IN: it is nil; or it leads to a row of 'cap' cells, the numbers 'zs' (the first 'len' are its elements, the rest its spare room), each fitting its kind. -/
def IsRow (k : IntKind) (w : World) (a : Option Addr) (len cap : Nat) (zs : List Int) : Prop :=
  (a = none ∧ len = 0 ∧ cap = 0 ∧ zs = []) ∨
  ∃ x, a = some x ∧ len ≤ cap ∧ cap ≤ maxLen ∧ zs.length = cap ∧ (∀ i, i < zs.length → w.cell? (x.add i) = some (.int k (zs.getD i 0))) ∧ ∀ n ∈ zs, (Lit.int k n).wf = true

/-! ### The order with the touches that wait -/
theorem virt_hit {zs : List Nat} {T : List Int} {p : Nat} (hp : p < 32) : applyL 32 (applyL 32 zs (toldBy T (p : Int))) (waitBy T (p : Int)) = mv 32 (applyL 32 zs T) (p : Int) := by
  have ho : okT (p : Int) = true := by
    unfold okT
    rw [decide_eq_true (show (0 : Int) ≤ p by omega), decide_eq_true (show (p : Int) < 32 by omega)]
    rfl
  unfold toldBy waitBy
  rw [ho, if_pos rfl]
  by_cases h7 : T.length = 7
  · rw [if_pos h7, decide_eq_true h7, if_pos (by simp), applyL_nil, applyL_snoc]
  · rw [if_neg h7, decide_eq_false h7, if_neg (by simp), applyL_nil, applyL_snoc]
theorem mv_in {zs : List Nat} (h : Fine 32 zs) {p : Nat} (hp : p ∈ zs) : mv 32 zs (p : Int) = p :: zs.erase p := by
  have hk : okO zs (p : Int) = true := by
    unfold okO
    rw [Int.toNat_natCast, decide_eq_true (show (0 : Int) ≤ p by omega), decide_eq_true hp]
    rfl
  unfold mv
  rw [if_pos hk, out_eq hp, front_eq (h.2 p hp) fun hm => ((h.1.mem_erase_iff).1 hm).1 rfl]
/-- All k frames have their pages, none is pinned; the order is that of the last touches. -/
structure OI (k : Nat) (la : List Int) (m : Int) (c : Co) : Prop where
  t : Tidy c
  n : c.a.n = k
  f : ∀ x, x < k → c.a.F x = ⟨1, (x : Int), 0, false⟩
  q : c.a.Q = []
  len : la.length = k
  s : (applyL 32 c.L c.T).Pairwise fun x y => la.getD y 0 < la.getD x 0
  m : ∀ x, x < k → la.getD x 0 < m
section
variable {k : Nat} {la : List Int} {m : Int} {c : Co}
theorem getD_set_ne {p x : Nat} {v : Int} (h : x ≠ p) : (la.set p v).getD x 0 = la.getD x 0 := by
  simp only [List.getD_eq_getElem?_getD]
  rw [List.getElem?_set_ne (fun e => h e.symm)]
theorem getD_set_eq {p : Nat} {v : Int} (h : p < la.length) : (la.set p v).getD p 0 = v := by
  simp [List.getD_eq_getElem?_getD, h]
theorem oi_start (h : CI (fun _ => false) k k c) (hl : la.length = k) (hz : ∀ x : Nat, x < k → la.getD x 0 = (x : Int)) : OI k la (k : Int) c := by
  refine ⟨h.t, h.n, h.f, ci_q h, hl, ?_, fun x hx => by rw [hz x hx]; omega⟩
  rw [h.T, applyL_nil, h.L, List.pairwise_reverse]
  refine List.Pairwise.imp_of_mem (fun {a b} ha hb hab => ?_) List.pairwise_lt_range
  rw [List.mem_range] at ha hb
  rw [hz a ha, hz b hb]
  omega
theorem oi_mem (h : OI k la m c) (x : Nat) : x ∈ applyL 32 c.L c.T ↔ x < k := by
  rw [mem_apply h.t.L, h.t.m, h.n]
  exact ⟨fun e => e.1, fun e => ⟨e, by rw [h.f x e]⟩⟩
theorem oi_touch (h : OI k la m c) {p : Nat} (hp : p < k) (hk : k ≤ 32) : (c.hitC (p : Int) = (p : Int) ∧ (c.hit (p : Int)).a.unpinC (p : Int) = 0) ∧ OI k (la.set p m) (m + 1) ((c.hit (p : Int)).unpin (p : Int)) := by
  have ef : c.a.find (p : Int) = (p : Int) := find_at h.t.g (by rw [h.n]; exact hp) (by rw [h.f p hp]) (by rw [h.f p hp])
  have e3 := pin_at (a := c.a) (f := p) (by rw [h.n]; exact hp) (by rw [h.f p hp]) (by rw [h.f p hp]; show (0 : Int) < 1000; omega)
  have eh : c.hit (p : Int) = ⟨c.a.pin (p : Int), applyL 32 c.L (toldBy c.T (p : Int)), waitBy c.T (p : Int), c.P⟩ := by
    unfold Co.hit
    rw [ef, if_pos e3.1]
  have ea : (c.hit (p : Int)).a = c.a.turn p ⟨1, (p : Int), 1, false⟩ := by
    rw [eh]
    show c.a.pin (p : Int) = _
    rw [e3.2, h.f p hp]
    rfl
  have hF : (c.hit (p : Int)).a.F p = ⟨1, (p : Int), 1, false⟩ := by rw [ea, turn_at, if_pos rfl]
  have e4 := unpin_at (a := (c.hit (p : Int)).a) (f := p) (by rw [ea]; show p < c.a.n; rw [h.n]; exact hp) (by rw [hF]) (by rw [hF]; show (1 : Int) ≠ 0; omega)
  have hV : applyL 32 ((c.hit (p : Int)).unpin (p : Int)).L ((c.hit (p : Int)).unpin (p : Int)).T = p :: (applyL 32 c.L c.T).erase p := by
    rw [← mv_in (h.t.L.apply _) ((oi_mem h p).2 hp), ← virt_hit (by omega)]
    show applyL 32 (c.hit (p : Int)).L (c.hit (p : Int)).T = _
    rw [eh]
  have hlen : p < la.length := by rw [h.len]; exact hp
  have hnd := (h.t.L.apply c.T).1
  refine ⟨⟨by unfold Co.hitC; rw [ef, if_pos e3.1], e4.1⟩, (h.t.hit _).unpin _, ?_, fun x hx => ?_, ?_, by rw [List.length_set]; exact h.len, ?_, fun x hx => ?_⟩
  · show ((c.hit (p : Int)).a.unpin (p : Int)).n = k
    rw [e4.2, ea]
    exact h.n
  · show ((c.hit (p : Int)).a.unpin (p : Int)).F x = _
    rw [e4.2, turn_at, hF]
    by_cases ex : x = p
    · subst ex; rw [if_pos rfl]; rfl
    · rw [if_neg ex, ea, turn_at, if_neg ex, h.f x hx]
  · show ((c.hit (p : Int)).a.unpin (p : Int)).Q = _
    rw [e4.2, ea]
    exact h.q
  · rw [hV, List.pairwise_cons]
    refine ⟨fun b hb => ?_, ?_⟩
    · obtain ⟨hb1, hb2⟩ := (hnd.mem_erase_iff).1 hb
      rw [getD_set_ne hb1, getD_set_eq hlen]
      exact h.m b ((oi_mem h b).1 hb2)
    · refine List.Pairwise.imp_of_mem (fun {a b} ha hb hab => ?_) (h.s.sublist (List.erase_sublist))
      rw [getD_set_ne ((hnd.mem_erase_iff).1 ha).1, getD_set_ne ((hnd.mem_erase_iff).1 hb).1]
      exact hab
  · by_cases ex : x = p
    · subst ex; rw [getD_set_eq hlen]; omega
    · rw [getD_set_ne ex]; have := h.m x hx; omega
theorem oi_end (h : OI k la m c) (hk : 1 ≤ k) (hk2 : k ≤ 32) : ∃ x : Nat, x < k ∧ c.roomC 40 = ⟨0, (x : Int), (x : Int)⟩ ∧ ∀ y, y < k → y ≠ x → la.getD x 0 < la.getD y 0 := by
  have ef : c.a.find 40 = -1 := find_none fun x hx hs e => by
    rw [h.n] at hx
    rw [h.f x hx] at e
    have e : (x : Int) = 40 := e
    omega
  have hs := h.s
  have hm := oi_mem h
  rw [← List.pairwise_reverse] at hs
  cases e : (applyL 32 c.L c.T).reverse with
  | nil => have := (hm 0).2 (by omega); rw [← List.mem_reverse, e] at this; cases this
  | cons x l =>
    rw [e, List.pairwise_cons] at hs
    have hx : x < k := (hm x).1 (by rw [← List.mem_reverse, e]; simp)
    refine ⟨x, hx, ?_, fun y hy hne => ?_⟩
    · have h1 : ¬ (c.a.find 40 ≠ -1) := by omega
      have h2 : ¬ ((40 : Int) < 0 ∨ (48 : Int) ≤ 40) := by omega
      unfold Co.roomC
      rw [if_neg h1, if_neg h2, h.q]
      dsimp only
      have hv : c.drain.victim = some x := by
        unfold Co.victim
        show (applyL 32 c.L c.T).reverse.find? (free c.a) = _
        rw [e]
        refine List.find?_cons_of_pos ?_
        unfold free
        rw [h.f x hx]
        rfl
      unfold Co.replC
      rw [hv]
      dsimp only
      show (if (c.a.F x).di = true then (⟨12, (x : Int), (c.a.F x).pg⟩ : Ans) else ⟨0, (x : Int), (c.a.F x).pg⟩) = _
      rw [h.f x hx]
      rfl
    · have hmy := (hm y).2 hy
      rw [← List.mem_reverse, e] at hmy
      rcases List.mem_cons.1 hmy with rfl | hmy
      · exact absurd rfl hne
      · exact hs.1 y hmy
end
theorem infoI : (Try.prog.info? 3).map (fun i => (i.zero, i.size, i.bytes)) = some (some (.int .i64 0), 1, 8) := by kernel_rfl
theorem madeI (w : World) (n : Nat) (hn : n ≤ 1024) : (Instr.makeSlice 40 (.int .i64 (n : Int)) (.int .i64 (n : Int))).run Try.prog w = .ok (.slice (some ⟨w.heap.size, 0, none⟩) n n) (w.alloc (.cells (madeCells #[.int .i64 0] n) 3)) := by
  obtain ⟨i, hi, hz, hs, hb⟩ := info_parts infoI
  have := run_make (P := Try.prog) w 40 3 i _ Try.underlying40 hi hz .i64 .i64 (n : Int) (n : Int) (by omega) (Int.le_refl _) (by rw [hb]; omega) (by omega)
  rw [hs, Int.toNat_natCast, Nat.mul_one] at this
  exact this
section
variable {w w' w1 w2 : World} {B N d : Nat} {c : Co} {zs : List Int}
theorem nb_cf (h : NBlk w N 3 .i64 zs) (hk : Kept (CF (fun k => B ≤ k ∧ k < N) B w) w w') : NBlk w' N 3 .i64 zs := by
  refine Blk.kept h hk fun x => ?_
  rcases x with x | x
  · have := x.1.2; omega
  · exact Chan.notChan_cells h x.2
theorem grow_cfN (h : Grow w w1) (k : Kept (CF (fun k => B ≤ k ∧ k < N) B w1) w1 w2) (hB : B = w.heap.size) : Grow w w2 := h.then k fun i hi e => by
  rcases e with e | e
  · have := e.1; omega
  · have := e.1; omega
theorem co_set (h : CoAt w (fun k => B ≤ k ∧ k < N) B d c) (hn : NBlk w N 3 .i64 zs) (j : Nat) (v : Value) : CoAt (w.setCell ⟨N, j, none⟩ v) (fun k => B ≤ k ∧ k < N) B d c :=
  h.keptX (Cells.kept_set w N j v) (fun k x _ e => by have := x.2; omega) fun k e => by subst e; exact Chan.notChan_cells hn
end
def Rel1 (w : World) (B N d k : Nat) (g : Nat) (i : Value) (wx : World) : Prop := ∃ (j : Nat) (c : Co) (zs : List Int), j + g = k ∧ i = .int .i64 (j : Int) ∧ CI (fun _ => false) k j c ∧ CoAt wx (fun k => B ≤ k ∧ k < N) B d c ∧ NBlk wx N 3 .i64 zs ∧ (zs.length = k ∧ ∀ x : Nat, x < j → zs.getD x 0 = (x : Int)) ∧ Grow w wx
def Rel2 (w : World) (B N d k M : Nat) (g : Nat) (i : Value) (wx : World) : Prop := ∃ (j : Nat) (c : Co) (zs : List Int), j + g = M ∧ i = .int .i64 (j : Int) ∧ OI k zs ((k : Int) + (j : Int)) c ∧ CoAt wx (fun k => B ≤ k ∧ k < N) B d c ∧ NBlk wx N 3 .i64 zs ∧ Grow w wx
def Rel3 (w0 : World) (zs : List Int) (k : Nat) (g : Nat) (v i : Value) (wx : World) : Prop := ∃ (j x : Nat), j + g = k ∧ i = .int .i64 (j : Int) ∧ v = .int .i64 (x : Int) ∧ x < k ∧ (∀ y, y < j → zs.getD x 0 ≤ zs.getD y 0) ∧ Grow w0 wx
/-! ### STEP 1: THE WALK: the Go text returns true, AND WRITES NOTHING THAT WAS THERE: 'Below w.heap.size w w'' (Derived/Below.lean: '.refl', '.alloc', '.drew', '.setCell' at a new block, '.trans'). Open each 'IsRow' by 'rcases' AHEAD of 'go_enter'; part every test ahead of the walk. -/
set_option maxHeartbeats 8000000 in
set_option maxRecDepth 100000 in
theorem walk (a0 : Int) (a1 : Option Addr) (len1 cap1 : Nat) (z1 : List Int) (w : World) (w0 : (Lit.int .i64 a0).wf = true) (w1 : IsRow .i64 w a1 len1 cap1 z1) :
    Calls Try.prog 4 #[.int .i64 a0, .slice a1 len1 cap1] w fun e w' => e = .returned (.bool true) ∧ Below w.heap.size w w' := by
  have k0 := bounds_i64 w0
  obtain ⟨hs, hlc, hcm, hwf⟩ := Sl.of_isRow w1
  obtain ⟨ts, hts⟩ : ∃ ts, ts = z1.take len1 := ⟨_, rfl⟩
  rw [← hts] at hs hwf
  have HS := Lib.hid hs
  unfold maxLen at hcm
  obtain ⟨q, hq, hq7⟩ := tmod_nat a0 7 (by omega)
  simp only [Int.cast_ofNat_Int] at hq
  obtain ⟨k, hk⟩ : ∃ k : Nat, k = 2 + q := ⟨_, rfl⟩
  have hkz : (2 : Int) + (q : Int) = (k : Int) := by omega
  have hk2 : 2 ≤ k := by omega
  have hk8 : k ≤ 8 := by omega
  have hkz8 : (k : Int) ≤ 8 := by omega
  have hkz2 : (2 : Int) ≤ (k : Int) := by omega
  have hqz : (q : Int) < 7 := by omega
  obtain ⟨B, hB⟩ : ∃ B, B = w.heap.size := ⟨_, rfl⟩
  have HB := Lib.hid hB
  have CN := Lib.hid (new_good (w := w) k (by omega))
  have km := fun (w : World) => madeI w k (by omega)
  clear hB hk hts hs hwf
  go_enter Try.func4, Try.ntmps4
  go_wp2_with (go_at_call 7; (try rw [hkz]); (with_reducible refine CN.out.mono ?_); rintro e w1 ⟨d, rfl, hr, hg⟩; rw [← HB.out] at hr; have H0 := Lib.hid hr; have G0 := Lib.hid hg; clear hr hg)
  clear hq hq7 hqz km
  have HNB := Lib.hid (NBlk.made w1 3 .i64 k)
  have HGA : Hid (Grow w1 (w1.alloc (.cells (madeCells #[.int .i64 0] k) 3))) := (Kept.refl _ _).alloc _
  have H0N : Hid (CoAt w1 (fun x => B ≤ x ∧ x < w1.heap.size) B d (CoM.fresh k)) := H0.out.mono fun x hx h => ⟨h, hx⟩
  obtain ⟨N, hN⟩ : ∃ N, w1.heap.size = N := ⟨_, rfl⟩
  have HBN : Hid (B ≤ N) := by
    show B ≤ N
    rw [← hN, HB.out]
    exact G0.out.size
  rw [hN] at HNB H0N ⊢
  clear hN
  have H1 := Lib.hid (H0N.out.grow HGA.out)
  have HG1 := Lib.hid (G0.out.trans HGA.out)
  generalize w1.alloc (.cells (madeCells #[.int .i64 0] k) 3) = w2 at HNB HGA H1 HG1 ⊢
  clear H0 H0N G0 HGA
  go_loopg [8] k (Rel1 w B N d k)
  case atStart => exact ⟨0, _, _, by omega, rfl, ci_zero _ (by omega), H1.out, HNB.out, ⟨by simp, fun x hx => by omega⟩, HG1.out⟩
  case round =>
    obtain ⟨j, c, zs, hg, rfl, hi, hc, hnb, hzz, hgr⟩ := hrel
    have HG := Lib.hid hg
    have HII := Lib.hid hi
    have HC := Lib.hid hc
    have HNZ := Lib.hid hnb
    have HZ := Lib.hid hzz
    have HGR := Lib.hid hgr
    clear hg hi hc hgr hnb hzz
    by_cases hj : j < k
    · have hjz : (j : Int) < (k : Int) := by omega
      have HJ := Lib.hid hj
      have HM := Lib.hid (ci_come HII.out hj (by omega))
      clear hj
      go_upto_region 12 with (first
        | (go_at_call 11; (with_reducible refine (t_room HC.out HII.out.t _ HM.out.1.1 rfl).mono ?_); rintro e w3 ⟨rfl, hr, hk⟩; have H3 := Lib.hid hr; have N3 := Lib.hid (nb_cf HNZ.out hk); have G3 := Lib.hid (grow_cfN HGR.out hk HB.out); clear hr hk)
        | (go_at_call 13; (with_reducible refine (t_let H3.out _ HM.out.1.2 rfl).mono ?_); rintro e w4 ⟨rfl, hr, hk⟩; have H4 := Lib.hid hr; have N4 := Lib.hid (nb_cf N3.out hk); have G4 := Lib.hid (grow_cfN G3.out hk HB.out); clear hr hk))
      have l4 := N4.out.at_ (j := j) (by rw [HZ.out.1]; exact HJ.out)
      have z4 := Blk.frozen N4.out j
      go_wp2
      go_roundg (gk - 1)
      case measure => have := HG.out; have := HJ.out; omega
      case rel =>
        refine ⟨j + 1, _, zs.set j (j : Int), by have := HG.out; have := HJ.out; omega, by go_num, ci_bit HM.out.2.2 (fun x hx => ?_), co_set H4.out N4.out j _, N4.out.set j _, ⟨by rw [List.length_set]; exact HZ.out.1, fun x hx => ?_⟩, G4.out.then (Cells.kept_set _ N j _) fun x hx e => ?_⟩
        · unfold TabM.upd; split <;> rfl
        · by_cases ex : x = j
          · subst ex; rw [getD_set_eq (by rw [HZ.out.1]; exact HJ.out)]
          · rw [getD_set_ne ex]; exact HZ.out.2 x (by omega)
        · have := HBN.out
          have := HB.out
          omega
    · obtain rfl : j = k := by have := HG.out; omega
      have HOI := Lib.hid (oi_start HII.out HZ.out.1 HZ.out.2)
      clear hj HNB H1 HG1
      obtain ⟨M, hM⟩ : ∃ M : Nat, M = min len1 60 := ⟨_, rfl⟩
      have HM := Lib.hid hM
      have hM1 : M ≤ len1 := by omega
      have hM60 : M ≤ 60 := by omega
      clear hM
      go_wp2_with (fail)
      go_loopg [12] M (Rel2 w B N d j M)
      case atStart => exact ⟨0, c, zs, by omega, rfl, by have := HOI.out; rw [show (j : Int) = (j : Int) + ((0 : Nat) : Int) by omega] at this; exact this, HC.out, HNZ.out, HGR.out⟩
      case round =>
        clear HOI HC HNZ HGR HZ HII HG
        obtain ⟨i, c, zs, hg, rfl, hi, hc, hnb, hgr⟩ := hrel
        have HG := Lib.hid hg
        have HII := Lib.hid hi
        have HC := Lib.hid hc
        have HNZ := Lib.hid hnb
        have HGR := Lib.hid hgr
        clear hg hi hc hgr hnb
        by_cases hi : i < M
        · have HI := Lib.hid hi
          have hiz : (i : Int) < (len1 : Int) := by omega
          have hi60 : (i : Int) < 60 := by omega
          obtain ⟨ob, oo, rfl, hob, hoc⟩ := HS.out.at_ (by omega)
          have r0 := HGR.out.cellN (hoc i (by omega)) id
          clear hoc
          generalize ts.getD i 0 = x at *
          obtain ⟨p, hpm, hpk⟩ := tmod_nat x j (by omega)
          have hpz : (p : Int) < (j : Int) := by omega
          have HT := Lib.hid (oi_touch HII.out hpk (by omega))
          have HPK := Lib.hid hpk
          clear hi hpk
          go_upto_region 20 with (first
            | (go_at_call 10; (with_reducible refine (t_hit HC.out HII.out.t _ HT.out.1.1 rfl).mono ?_); rintro e w3 ⟨rfl, hr, hk⟩; have H3 := Lib.hid hr; have N3 := Lib.hid (nb_cf HNZ.out hk); have G3 := Lib.hid (grow_cfN HGR.out hk HB.out); clear hr hk)
            | (go_at_call 13; (with_reducible refine (t_let H3.out _ HT.out.1.2 rfl).mono ?_); rintro e w4 ⟨rfl, hr, hk⟩; have H4 := Lib.hid hr; have N4 := Lib.hid (nb_cf N3.out hk); have G4 := Lib.hid (grow_cfN G3.out hk HB.out); clear hr hk))
          have l4 := N4.out.at_ (j := p) (by rw [HII.out.len]; exact HPK.out)
          have z4 := Blk.frozen N4.out p
          go_wp2
          go_roundg (gk - 1)
          case measure => have := HG.out; have := HI.out; omega
          case rel =>
            refine ⟨i + 1, _, zs.set p ((j : Int) + (i : Int)), by have := HG.out; have := HI.out; omega, by go_num, by have := HT.out.2; rw [show (j : Int) + (i : Int) + 1 = (j : Int) + ((i + 1 : Nat) : Int) by omega] at this; exact this, co_set H4.out N4.out p _, N4.out.set p _, G4.out.then (Cells.kept_set _ N p _) fun x hx e => ?_⟩
            have := HBN.out
            have := HB.out
            omega
        · obtain rfl : i = M := by have := HG.out; omega
          have HE := Lib.hid (oi_end HII.out (by omega) (by omega))
          have hend : (len1 : Int) ≤ (i : Int) ∨ ((i : Int) < (len1 : Int) ∧ (60 : Int) ≤ (i : Int)) := by have := HM.out; omega
          obtain ⟨W0, hW0⟩ : ∃ W0, W0 = wr := ⟨_, rfl⟩
          rw [← hW0] at HC HNZ HGR
          have HLEN := Lib.hid HII.out.len
          have HTI := Lib.hid HII.out.t
          clear hi
          rcases hend with h | ⟨h, h'⟩
          all_goals
            go_wp2_with (fail)
            go_loopg [15, 16] j (Rel3 W0 zs j)
            case atStart => exact ⟨0, 0, by omega, rfl, rfl, by omega, fun y hy => by omega, by rw [hW0]; exact Kept.refl _ _⟩
            case round =>
              obtain ⟨y, x, hg, rfl, rfl, hx, hmin, hgr⟩ := hrel
              have HG3 := Lib.hid hg
              have HX := Lib.hid hx
              have HMIN := Lib.hid hmin
              have HGR3 := Lib.hid hgr
              have N3 : Hid (NBlk wr N 3 .i64 zs) := Blk.grow HNZ.out hgr
              clear hg hmin hgr
              by_cases hy : y < j
              · have hyz : (y : Int) < (j : Int) := by omega
                have hxz : (x : Int) < (j : Int) := by omega
                have HY := Lib.hid hy
                have ly := N3.out.at_ (j := y) (by rw [HLEN.out]; exact hy)
                have lx := N3.out.at_ (j := x) (by rw [HLEN.out]; exact hx)
                clear hy hx
                obtain ⟨vy, hvy⟩ : ∃ vy, vy = zs.getD y 0 := ⟨_, rfl⟩
                obtain ⟨vx, hvx⟩ : ∃ vx, vx = zs.getD x 0 := ⟨_, rfl⟩
                rw [← hvy] at ly
                rw [← hvx] at lx
                have HVY := Lib.hid hvy
                have HVX := Lib.hid hvx
                clear hvy hvx
                go_upto_region 25 with (fail)
                have q0 := up_cell (F := fun _ => False) (w := wr.drew) (p := ⟨N, y, none⟩) ly id
                have q1 := up_cell (F := fun _ => False) (w := wr.drew) (p := ⟨N, x, none⟩) lx id
                refine wp_region_stages (Kept fun _ => False) (kept_refl _) (kept_trans _) [] [0, 1, 2, 3, 4, 5, 6, 7, 8] (by kernel_rfl) (by kernel_rfl) ?_
                simp only [selSt, sel, List.map_cons, List.map_nil, List.getD_cons_succ, List.getD_cons_zero]
                refine st_nil fun K4 hK4 => ?_
                repeat (go_big_quiet_step (fail))
                refine wpQuiet_nil (hK4 _ ?_)
                clear hK4 K4 q0 q1
                by_cases hlt : vy < vx
                · have HLT := Lib.hid hlt
                  go_wp2
                  go_roundg (gk - 1)
                  case measure => have := HG3.out; have := HY.out; omega
                  case rel =>
                    refine ⟨y + 1, y, by have := HG3.out; have := HY.out; omega, by go_num, rfl, HY.out, fun z hz => ?_, HGR3.out.drew⟩
                    have h1 := HVY.out
                    have h2 := HVX.out
                    have h3 := HLT.out
                    by_cases ez : z = y
                    · subst ez; omega
                    · have := HMIN.out z (by omega); omega
                · have HLT := Lib.hid hlt
                  go_wp2
                  go_roundg (gk - 1)
                  case measure => have := HG3.out; have := HY.out; omega
                  case rel =>
                    refine ⟨y + 1, x, by have := HG3.out; have := HY.out; omega, by go_num, rfl, HX.out, fun z hz => ?_, HGR3.out.drew⟩
                    have h1 := HVY.out
                    have h2 := HVX.out
                    have h3 := HLT.out
                    by_cases ez : z = y
                    · subst ez; omega
                    · have := HMIN.out z (by omega); omega
              · obtain rfl : y = j := by have := HG3.out; omega
                obtain ⟨v, hv, hroom, hsm⟩ := HE.out
                obtain rfl : x = v := by
                  by_cases e : x = v
                  · exact e
                  · have h1 := hsm x hx e
                    have h2 := HMIN.out v hv
                    omega
                have HROOM := Lib.hid hroom
                have HC3 := Lib.hid (HC.out.grow HGR3.out)
                clear hy hv hroom hsm hx
                go_wp2_with (first
                  | (go_at_call 11; (with_reducible refine (t_room HC3.out HTI.out 40 HROOM.out rfl).mono ?_); rintro e w5 ⟨rfl, hr, hk⟩; have G5 := Lib.hid (grow_cfN (HGR.out.trans HGR3.out) hk HB.out); clear hr hk)
                  | (go_at_call 15; (with_reducible refine (told_any _).mono ?_); rintro e w6 ⟨rfl, hg⟩; have HG6 := Lib.hid hg; clear hg))
                go_ret
                exact ⟨rfl, Grow.below (G5.out.trans HG6.out)⟩

/-! ### THE ROW's STEP: WRITTEN OUT: LEAVE IT -/
set_option maxRecDepth 100000 in
theorem lifted (os : Os) (started : os.Started) (H : Type) (enc : TypeId × Value → H) :
    ReturnsInHanded {} Try.checked os 4 .any (Rows.coreOrdersSpec.pre6 enc Try.prog Try.f4 Rows.coreOrdersRow.domain false) (Rows.coreOrdersSpec.post enc Try.prog Try.f4 false true false false) := by
  refine returnsInHanded_of_change (C := Try.checked) own started (by kernel_rfl) Try.func4
    (ChangeSpec.witness6 (enc := enc) (C := Try.checked) false ⟨#[], #[.int .i64 0, .slice none 0 0], []⟩ 8 (by kernel_rfl) (by kernel_rfl) (by kernel_rfl) (by kernel_rfl)) ?_
  intro W base args ds gs before hval0 hW hcnd _
  have hval : ∀ (j : Nat) t v, Try.f4.params[j]? = some t → args[j]? = some v → Value.okWide Try.prog W .any base t v := hval0
  have hW' := hW
  obtain ⟨p, q, hA0, hV, rfl, hfz, hnd⟩ := hW
  have hA : DataW.TrodAll enc Try.prog W 0 (fun _ => true) true Try.f4.params.toList args.toList ds p := hA0
  rw [Try.params4] at hA hval
  obtain ⟨v0, vs0, d0, ds0, p0, q0, hargs, rfl, rfl, h0, r0⟩ := trodAll_cons hA
  obtain ⟨v1, vs1, d1, ds1, p1, q1, rfl, rfl, rfl, h1, r1⟩ := trodAll_cons r0
  obtain ⟨rfl, rfl, rfl⟩ := trodAll_nil r1
  obtain rfl : args = #[v0, v1] := by cases args; simp_all
  obtain ⟨rfl, rfl⟩ := trodVars_none hV
  obtain ⟨a0, rfl, rfl, rfl, w0⟩ := open_int Try.underlying3 (hval 0 3 v0 rfl rfl) h0
  obtain ⟨a1, len1, cap1, rfl⟩ := okWide_slice Try.underlying40 (hval 1 40 v1 rfl rfl)
  have k1 := h1
  have lt1 : ∀ x ∈ p1, x.block < W.heap.size := by obtain ⟨m, hm⟩ := k1; exact DataW.trod_lt m _ _ _ hm
  obtain ⟨z1, w1⟩ : ∃ zs, IsRow .i64 W a1 len1 cap1 zs := by
    obtain ⟨fuel, hf⟩ := h1
    rcases open_ints Try.underlying40 Try.underlying3 (by kernel_rfl) hf with ⟨hcs, _⟩ | ⟨x, l, c, zs, hcs, _, hl, hm, hz, _, hcell, hwz⟩
    · simp [Value.cells] at hcs
      obtain ⟨rfl, rfl, rfl⟩ := hcs
      exact ⟨[], .inl ⟨rfl, rfl, rfl, rfl⟩⟩
    · simp [Value.cells] at hcs
      obtain ⟨rfl, rfl, rfl⟩ := hcs
      exact ⟨zs, .inr ⟨_, rfl, hl, hm, by simpa using hz, hcell, hwz⟩⟩
  clear hA0 hval0
  refine (walk a0 a1 len1 cap1 z1 W w0 w1).mono fun e W' ⟨he, bel⟩ => ?_
  subst he
  exact ⟨_, rfl, _, _, _, [], _, [], hW', trodAll_mk1 (shut_bool Try.underlying4 _), (trodAll_cons_mk (shut_int Try.underlying3 w0) (trodAll_cons_mk (Below.trod laidOut (by kernel_rfl) (of_decide_eq_true (by kernel_rfl)) k1 bel lt1) trodAll_mk0)), rfl, bel.frame _, fun h => by cases h⟩

theorem over : Rows.coreOrdersRow.holds Try.pinned (OpenSpec.ofChange Rows.coreOrdersSpec) :=
  OpenClaim.holds_of_wide 4 Try.f4 rfl rfl rfl rfl rfl rfl rfl ⟨rfl, rfl, rfl, rfl, rfl⟩ rfl rfl rfl rfl rfl (by kernel_rfl) Try.func4 (by kernel_rfl)
    (of_decide_eq_true (by kernel_rfl)) (by unfold Func.isWrapper; first | (rw [if_pos (by decide +kernel)]; kernel_rfl) | (rw [if_neg (by decide +kernel)]; exact ⟨rfl, rfl⟩))
    (fun os started H enc _ => lifted os started H enc)

/-- ████ THE STATEMENT ████ -/
theorem proved : Rows.CoreOrdersSaid := over
#print axioms proved
end Go.Proofs.Ytcmhkknoffeebaa.coreOrders
