/-
  For every input the call of lavabolaw13.ModelPlays returns true and leaves its arguments as they were; no condition.
-/
import Derived.Test.YteiodnclpbjbbaaPmLaw2
import Derived.Test.YteiodnclpbjbbaaMdRun
import Derived.Test.YteiodnclpbjbbaaMdFew
import Derived.Test.YteiodnclpbjbbaaMdIs
import Derived.Test.YteiodnclpbjbbaaMdNew
import Derived.Test.YteiodnclpbjbbaaMdNear
import Derived.Test.YteiodnclpbjbbaaMdCalls
import Derived.Test.YteiodnclpbjbbaaTold13
import Derived.Test.YteiodnclpbjbbaaRows
import Derived.WalkKit
import Derived.ProofKit
import Derived.OpenShut
import Derived.ShutString
import Derived.ChangeOld
import Derived.Below
namespace Go.Proofs.Yteiodnclpbjbbaa.modelPlays
open Go.ChangeShapes Go.WideShapes Go.ChangeAt Go.RowKit
open Go.ChangeMaps (open_string shut_string)
open Go.Proofs.Yteiodnclpbjbbaa.MdR Go.Proofs.Yteiodnclpbjbbaa.MdD Go.Proofs.Yteiodnclpbjbbaa.MdH Go.Proofs.Yteiodnclpbjbbaa.MdI Go.Proofs.Yteiodnclpbjbbaa.MdJ Go.Proofs.Yteiodnclpbjbbaa.Law13b Go.Proofs.Yteiodnclpbjbbaa.Mem Go.Proofs.Yteiodnclpbjbbaa.Blk Go.Proofs.Yteiodnclpbjbbaa.Cells Go.Proofs.Yteiodnclpbjbbaa.Orow Go.Proofs.Yteiodnclpbjbbaa.GrC Go.Proofs.Yteiodnclpbjbbaa.MdM Go.Proofs.Yteiodnclpbjbbaa.MdC Go.Proofs.Yteiodnclpbjbbaa.PmC Go.Proofs.Yteiodnclpbjbbaa.PmM Go.Proofs.Yteiodnclpbjbbaa.PmS Go.Proofs.Yteiodnclpbjbbaa.PmE Go.Proofs.Yteiodnclpbjbbaa.PmN Go.Proofs.Yteiodnclpbjbbaa.PmF Go.Proofs.Yteiodnclpbjbbaa.Law13 Go.Proofs.Yteiodnclpbjbbaa.Told13 Go.Proofs.Yteiodnclpbjbbaa.Calls13 Go.Proofs.Yteiodnclpbjbbaa.MdN Go.Proofs.Yteiodnclpbjbbaa.MdNear Go.Proofs.Yteiodnclpbjbbaa.Stages
set_option linter.unusedVariables false

theorem own : ownKnob Try.prog.godebug = none := by kernel_rfl
theorem laidOut : laidOutB Try.prog = true := by kernel_rfl

/-- WHAT THE WALK IS TOLD OF A SLICE OF INTEGERS THAT CAME IN: it is nil; or it leads to a row of 'cap' cells, the numbers 'zs' (the first 'len' are its elements, the rest its spare room), each fitting its kind. -/
def IsRow (k : IntKind) (w : World) (a : Option Addr) (len cap : Nat) (zs : List Int) : Prop :=
  (a = none ∧ len = 0 ∧ cap = 0 ∧ zs = []) ∨
  ∃ x, a = some x ∧ len ≤ cap ∧ cap ≤ maxLen ∧ zs.length = cap ∧ (∀ i, i < zs.length → w.cell? (x.add i) = some (.int k (zs.getD i 0))) ∧ ∀ n ∈ zs, (Lit.int k n).wf = true

/-- The two boxes that the law makes of what both News told. -/
theorem boxes (w : World) (x y z x' y' z' : Value) :
    Grow w ((w.alloc (.cells #[x, y, z] 28)).alloc (.cells #[x', y', z'] 41)) ∧
    Blk ((w.alloc (.cells #[x, y, z] 28)).alloc (.cells #[x', y', z'] 41)) w.heap.size 28 [x, y, z] ∧
    Blk ((w.alloc (.cells #[x, y, z] 28)).alloc (.cells #[x', y', z'] 41)) (w.heap.size + 1) 41 [x', y', z'] := by
  have g1 : Grow w (w.alloc (.cells #[x, y, z] 28)) := (Kept.refl _ _).alloc _
  have b1 := Blk.new w 28 [x, y, z]
  have z1 : (w.alloc (.cells #[x, y, z] 28)).heap.size = w.heap.size + 1 := by simp
  generalize w.alloc (.cells #[x, y, z] 28) = u at *
  have g2 : Grow u (u.alloc (.cells #[x', y', z'] 41)) := (Kept.refl _ _).alloc _
  have b2 := Blk.new u 41 [x', y', z']
  rw [z1] at b2
  exact ⟨g1.trans g2, b1.grow g2, b2⟩
/-- Both stand the same: the program's state in box m, the document's in box m + 1, its blocks from B on. -/
structure PInv (w : World) (B m : Nat) (v : Value) (a : Md) (wx : World) : Prop where
  s : ∃ x y z, Blk wx m 28 [x, y, z] ∧ PAt wx (fun k => k < B ∨ m + 1 < k) (.agg #[x, y, z]) a
  x : ∃ x y z, v = .agg #[x, y, z] ∧ Blk wx (m + 1) 41 [x, y, z]
  d : SAt wx (fun k => B ≤ k ∧ k < m) v a
  g : Grow w wx
/-- The call's box at g holds a call with data that is in memory. -/
def CBox (w0 : World) (g : Nat) (wx : World) : Prop := ∃ y : CallV, Blk wx g 54 [.int .i64 y.c, .int .i64 y.k, .int .i64 y.p, .int .i64 y.h, .int .i64 y.o, .int .i64 y.n, .slice y.A y.len y.cap] ∧ BytesAt wx y.A y.len y.cap ∧ y.o ≤ 9223372036854775807 ∧ Kept (fun k => k = g) w0 wx
theorem bytes_take {w w' : World} {F : Nat → Prop} {A : Option Addr} {len cap l' : Nat} (h : BytesAt w A len cap) (hl : l' ≤ len) (hk : Kept F w w') (hF : ∀ k, k < w.heap.size → ¬ F k) : BytesAt w' A l' cap := by
  obtain ⟨d, hs, hb, h1, h2⟩ := h
  refine ⟨d.take l', ⟨by rw [List.length_take, hs.len]; omega, fun h0 => ?_⟩, fun z hz => hb z (List.mem_of_mem_take hz), by omega, h2⟩
  obtain ⟨b, off, rfl, hlt, hc⟩ := hs.at_ (by omega)
  refine ⟨b, off, rfl, Nat.lt_of_lt_of_le hlt hk.size, fun j hj => ?_⟩
  rw [show (d.take l').getD j 0 = d.getD j 0 by simp [List.getD_eq_getElem?_getD, List.getElem?_take, hj]]
  exact hk.cellN (hc j (by omega)) (hF b hlt)
theorem PInv.grow {w wx wy : World} {B m : Nat} {v : Value} {a : Md} (h : PInv w B m v a wx) (hk : Grow wx wy) : PInv w B m v a wy := by
  obtain ⟨⟨x, y, z, h1, h2⟩, ⟨x', y', z', h3, h4⟩, h5, h6⟩ := h
  exact ⟨⟨x, y, z, h1.grow hk, h2.grow hk⟩, ⟨x', y', z', h3, h4.grow hk⟩, h5.grow hk, h6.trans hk⟩
theorem run_n {a : Md} (c : Int) (o : MdOp) : (a.run c o).2.n = a.n ∧ (a.run c o).2.N = a.N := by
  have hp : ∀ (p : Int) (f : Nat → Re × Md), (∀ q, (f q).2.n = a.n ∧ (f q).2.N = a.N) → (a.onPage p f).2.n = a.n ∧ (a.onPage p f).2.N = a.N := fun p f h => by
    unfold Md.onPage
    split
    · exact ⟨rfl, rfl⟩
    · split
      · exact ⟨rfl, rfl⟩
      · exact h _
  have hh : ∀ (c h : Int) (f : Nat → Re × Md), (∀ q, (f q).2.n = a.n ∧ (f q).2.N = a.N) → (a.onHand c h f).2.n = a.n ∧ (a.onHand c h f).2.N = a.N := fun c h f hf => by
    unfold Md.onHand
    split
    · exact ⟨rfl, rfl⟩
    · exact hf _
  unfold Md.run
  split
  · exact ⟨rfl, rfl⟩
  split
  · unfold Md.new
    split
    · exact ⟨rfl, rfl⟩
    · split <;> exact ⟨rfl, rfl⟩
  split
  · exact hp _ _ fun q => by unfold Md.fetch; split <;> exact ⟨rfl, rfl⟩
  split
  · exact hh _ _ _ fun q => by unfold Md.read; split <;> exact ⟨rfl, rfl⟩
  split
  · exact hh _ _ _ fun q => by unfold Md.write; split <;> exact ⟨rfl, rfl⟩
  split
  · exact hh _ _ _ fun q => ⟨rfl, rfl⟩
  split
  · exact hp _ _ fun q => ⟨rfl, rfl⟩
  split
  · exact ⟨rfl, rfl⟩
  · exact hp _ _ fun q => by unfold Md.del; split <;> exact ⟨rfl, rfl⟩
theorem pat_sl {w : World} {G : Nat → Prop} {x y z : Value} {a : Md} (h : PAt w G (.agg #[x, y, z]) a) : ∃ AT cT AB cB AH cH, x = .slice AT a.n cT ∧ y = .slice AB a.n cB ∧ z = .slice AH a.N cH := by
  obtain ⟨AT, cT, AB, cB, AH, cH, e⟩ := pat_form h
  simp only [Value.agg.injEq, Array.mk.injEq, List.cons.injEq, and_true] at e
  exact ⟨_, _, _, _, _, _, e.1, e.2.1, e.2.2⟩
theorem sl_keptF {w w' : World} {F : Nat → Prop} {n : Nat} {k : IntKind} {A : Option Addr} {zs : List Int} (h : Sl w w.heap.size k A n zs) (hk : Kept F w w') (hA : 0 < n → ∀ x, A = some x → ¬ F x.block) : Sl w' w'.heap.size k A n zs := by
  refine ⟨h.1, fun hn => ?_⟩
  obtain ⟨b, off, e, hb, hc⟩ := h.2 hn
  exact ⟨b, off, e, Nat.lt_of_lt_of_le hb hk.size, fun j hj => hk.cellN (hc j hj) (by have := hA hn _ e; exact this)⟩
def PLoop (w : World) (B m : Nat) (v : Value) (n N M g : Nat) (i : Value) (wx : World) : Prop := ∃ j : Nat, j + g = M ∧ i = .int .i64 (j : Int) ∧ ∃ a, a.n = n ∧ a.N = N ∧ PInv w B m v a wx
/-! ### STEP 1: THE WALK: the Go text returns true, AND WRITES NOTHING THAT WAS THERE: 'Below w.heap.size w w'' (Derived/Below.lean: '.refl', '.alloc', '.drew', '.setCell' at a new block, '.trans'). Open each 'IsRow' by 'rcases' AHEAD of 'go_enter'; part every test ahead of the walk. -/
set_option maxHeartbeats 4000000 in
set_option maxRecDepth 100000 in
theorem walk (a0 : Int) (a1 : Int) (a2 : Option Addr) (len2 cap2 : Nat) (a3 : Int) (w : World) (w0 : (Lit.int .i64 a0).wf = true) (w1 : (Lit.int .i64 a1).wf = true) (w2 : CallsAt w a2 len2 cap2) (w3 : (Lit.int .i64 a3).wf = true) :
    Calls Try.prog 5 #[.int .i64 a0, .int .i64 a1, .slice a2 len2 cap2, .int .i64 a3] w fun e w' => e = .returned (.bool true) ∧ Below w.heap.size w w' := by
  obtain ⟨hlc, hcm, hops⟩ := w2
  unfold maxLen at hcm
  have HOPS := Lib.hid hops
  clear hops
  by_cases hpg : (1 ≤ a0 ∧ a0 ≤ 48) ∧ 1 ≤ a1 ∧ a1 ≤ 6
  · obtain ⟨⟨h1, h2⟩, h3, h4⟩ := hpg
    obtain ⟨n, rfl⟩ := Int.eq_ofNat_of_zero_le (show 0 ≤ a0 by omega)
    obtain ⟨N, rfl⟩ := Int.eq_ofNat_of_zero_le (show 0 ≤ a1 by omega)
    have CN := Lib.hid (new_any n N (by omega) (by omega) (by omega) (by omega) w)
    have CR : Hid (∀ wx, Calls Try.prog 25 #[.int .i64 (n : Int), .int .i64 (N : Int)] wx (RNewP n N wx)) := fun wx => rnew_any n N (by omega) (by omega) (by omega) (by omega) wx
    have HNN : Hid ((1 ≤ n ∧ n ≤ 48) ∧ 1 ≤ N ∧ N ≤ 6) := by show (1 ≤ n ∧ n ≤ 48) ∧ 1 ≤ N ∧ N ≤ 6; omega
    have hne : ((n : Int) == 0) = false := by rw [beq_eq_false_iff_ne]; omega
    have hne' : ¬ ((n : Int) = 0) := by omega
    clear h1 h2 h3 h4
    go_enter Try.func5, Try.ntmps5
    go_upto_region 2 with (first
      | (go_at_call 11; (with_reducible refine CN.out.mono ?_); rintro e w1 ⟨v1, rfl, hpa, hg⟩; obtain ⟨AT, cT, AB, cB, AH, cH, rfl⟩ := pat_form hpa; have HPA := Lib.hid hpa; have HG1 := Lib.hid hg; clear hpa hg)
      | (go_at_call 25; (with_reducible refine (CR.out _).mono ?_); rintro e w2 ⟨v2, rfl, hsa, hg⟩; obtain ⟨gT, dT, gB, dB, gH, dH, q, cp, rfl, hsm⟩ := hsa.mem; have HSA := Lib.hid hsa; have HG2 := Lib.hid hg; clear hsa hsm hg))
    obtain ⟨hg, hb1, hb2⟩ := boxes w2 (.slice AT (fresh n N).n cT) (.slice AB (fresh n N).n cB) (.slice AH (fresh n N).N cH) (.slice (some ⟨gT, 0, none⟩) (fresh n N).n dT) (.slice (some ⟨gB, 0, none⟩) (fresh n N).n dB) (.slice (some ⟨gH, 0, none⟩) (fresh n N).N dH)
    obtain ⟨B, hB⟩ : ∃ B, B = w1.heap.size := ⟨_, rfl⟩
    have hz1 := HG1.out.size
    have hz2 := HG2.out.size
    have hp := (((HPA.out.mono (X := fun k => k < B ∨ w2.heap.size + 1 < k) fun k hk _ => .inl (by omega)).grow HG2.out).grow hg)
    have hs := (HSA.out.mono (X := fun k => B ≤ k ∧ k < w2.heap.size) fun k hk (x : w1.heap.size ≤ k) => ⟨by omega, hk⟩).kept hg (fun _ _ x => x)
    have hgg := (HG1.out.trans HG2.out).trans hg
    obtain ⟨m, hm⟩ : ∃ m, m = w2.heap.size := ⟨_, rfl⟩
    have HBM : Hid (w.heap.size ≤ B ∧ B ≤ m) := ⟨by omega, by omega⟩
    rw [← hm] at hb1 hb2 hp hs ⊢
    generalize (w2.alloc (.cells #[.slice AT (fresh n N).n cT, .slice AB (fresh n N).n cB, .slice AH (fresh n N).N cH] 28)).alloc (.cells #[.slice (some ⟨gT, 0, none⟩) (fresh n N).n dT, .slice (some ⟨gB, 0, none⟩) (fresh n N).n dB, .slice (some ⟨gH, 0, none⟩) (fresh n N).N dH] 41) = w3 at hg hb1 hb2 hp hs hgg ⊢
    have HI : Hid (PInv w B m (sval gT dT gB dB gH dH (fresh n N)) (fresh n N) w3) := ⟨⟨_, _, _, hb1, hp⟩, ⟨_, _, _, rfl, hb2⟩, hs, hgg⟩
    have c0 := hb2.cell 0
    simp only [List.getElem?_cons_zero] at c0
    have hne2 : (((fresh n N).n : Int) == 0) = false := hne
    have hne3 : ¬ (((fresh n N).n : Int) = 0) := hne'
    clear hB hz1 hz2 hp hs hgg hm hg hb1 hb2 HPA HSA HG1 HG2 CN CR
    by_cases h80 : 80 < len2
    · have h80z : (80 : Int) < (len2 : Int) := by omega
      have HGI := Lib.hid HI.out.g
      go_wp2_with (go_at_call 10; (with_reducible refine (told_any _).mono ?_); rintro e wt ⟨rfl, hge⟩; have HGE := Lib.hid hge; clear hge)
      go_ret
      exact ⟨rfl, Grow.below (HGI.out.trans HGE.out)⟩
    · have h80z : (len2 : Int) ≤ 80 := by omega
      generalize hvv : sval gT dT gB dB gH dH (fresh n N) = v at HI ⊢
      clear h80 hvv
      go_wp2
      go_loopg [11] len2 (PLoop w B m v n N len2)
      case atStart => exact ⟨0, by omega, rfl, _, rfl, rfl, HI.out⟩
      case round =>
        obtain ⟨j, hg, rfl, a, hn, hN, hi⟩ := hrel
        have HG := Lib.hid hg
        have HI1 := Lib.hid hi
        have HAN : Hid (a.n = n ∧ a.N = N) := ⟨hn, hN⟩
        have HGI := Lib.hid hi.g
        clear hg hi hn hN HI
        by_cases hj : j < len2
        · have hjz : (j : Int) < (len2 : Int) := by omega
          have HJ := Lib.hid hj
          obtain ⟨ab, ao, rfl, hab, hall⟩ := HOPS.out (by omega)
          obtain ⟨x, hx⟩ := hall j hj
          have HX := Lib.hid hx
          have cc := HGI.out.cellN hx.c id
          have ck := HGI.out.cellN hx.k id
          have cp := HGI.out.cellN hx.p id
          have ch := HGI.out.cellN hx.h id
          have co := HGI.out.cellN hx.o id
          have cn := HGI.out.cellN hx.n id
          have cd := HGI.out.cellN hx.d id
          clear hall hx hj
          go_upto_region 10 with (fail)
          have hcb := Blk.new wr 54 [.int .i64 x.c, .int .i64 x.k, .int .i64 x.p, .int .i64 x.h, .int .i64 x.o, .int .i64 x.n, .slice x.A x.len x.cap]
          have hgc : Grow wr (wr.alloc (.cells #[.int .i64 x.c, .int .i64 x.k, .int .i64 x.p, .int .i64 x.h, .int .i64 x.o, .int .i64 x.n, .slice x.A x.len x.cap] 54)) := (Kept.refl _ _).alloc _
          obtain ⟨g, hgg⟩ : ∃ g, g = wr.heap.size := ⟨_, rfl⟩
          have HGG := Lib.hid hgg
          rw [← hgg] at hcb ⊢
          generalize wr.alloc (.cells #[.int .i64 x.c, .int .i64 x.k, .int .i64 x.p, .int .i64 x.h, .int .i64 x.o, .int .i64 x.n, .slice x.A x.len x.cap] 54) = wk at hcb hgc ⊢
          have HCB := Lib.hid hcb
          have HGC := Lib.hid hgc
          clear hcb hgc hgg cc ck cp ch co cn cd
          have c6 := HCB.out.cell 6
          simp only [List.getElem?_cons_zero, List.getElem?_cons_succ] at c6
          by_cases h40 : 40 < x.len
          · have h40z : (40 : Int) < (x.len : Int) := by omega
            go_wp2_with (go_at_call 10; (with_reducible refine (told_any _).mono ?_); rintro e wt ⟨rfl, hge⟩; have HGE := Lib.hid hge; clear hge)
            go_ret
            exact ⟨rfl, Grow.below ((HGI.out.trans HGC.out).trans HGE.out)⟩
          · have h40z : (x.len : Int) ≤ 40 := by omega
            go_upto_region 12 with (fail)
            clear h40 h40z c6
            go_upto_if 58 with (fail)
            have HNEAR : Hid (∀ wx, Calls Try.prog 26 #[.agg #[.int .i64 x.c, .int .i64 x.k, .int .i64 x.p, .int .i64 x.h, .int .i64 x.o, .int .i64 x.n, .slice x.A x.len x.cap], .int .i64 (n : Int), .int .i64 (N : Int)] wx (NearP n N x.A x.len x.cap wx)) := fun wx => near_any x.c x.k x.p x.h x.o x.n x.A x.len x.cap n N (by have := HNN.out; omega) (by have := HNN.out; omega) (by have := HNN.out; omega) (by have := HNN.out; omega) (by obtain ⟨d, _, _, h, _⟩ := HX.out.da; exact h) wx
            have c0 := HCB.out.cell 0
            have c1 := HCB.out.cell 1
            have c2 := HCB.out.cell 2
            have c3 := HCB.out.cell 3
            have c4 := HCB.out.cell 4
            have c5 := HCB.out.cell 5
            have c6 := HCB.out.cell 6
            have cf := HCB.out.frozen
            simp only [List.getElem?_cons_zero, List.getElem?_cons_succ] at c0 c1 c2 c3 c4 c5 c6
            go_cut [] from 58 to 62 (fun wx => CBox wk g wx)
            case first =>
              go_wp2_with (go_at_call 26; (with_reducible refine (HNEAR.out _).mono ?_); rintro e wn ⟨c', k', p', h', o', n', l', rfl, hr1, hr2, hr3, hr4, hr5, hr6, hr7, hl, hg⟩; have HNR := Lib.hid (And.intro hr6 hl); have HGN := Lib.hid hg; have hbn := HCB.out.grow hg; have c0 := hbn.cell 0; have c1 := hbn.cell 1; have c2 := hbn.cell 2; have c3 := hbn.cell 3; have c4 := hbn.cell 4; have c5 := hbn.cell 5; have c6 := hbn.cell 6; have cf := hbn.frozen; simp only [List.getElem?_cons_zero, List.getElem?_cons_succ] at c0 c1 c2 c3 c4 c5 c6; clear hbn hg hr1 hr2 hr3 hr4 hr5 hr6 hr7 hl)
              · go_meet
                have hb := (((((((HCB.out.grow HGN.out).set 0 (.int .i64 (c' : Int))).set 1 (.int .i64 (k' : Int))).set 2 (.int .i64 (p' : Int))).set 3 (.int .i64 (h' : Int))).set 4 (.int .i64 (o' : Int))).set 5 (.int .i64 (n' : Int))).set 6 (.slice x.A l' x.cap)
                have hk := (((((((Grow.kept (F := fun k => k = g) HGN.out).trans (kept_set _ g 0 (.int .i64 (c' : Int)))).trans (kept_set _ g 1 (.int .i64 (k' : Int)))).trans (kept_set _ g 2 (.int .i64 (p' : Int)))).trans (kept_set _ g 3 (.int .i64 (h' : Int)))).trans (kept_set _ g 4 (.int .i64 (o' : Int)))).trans (kept_set _ g 5 (.int .i64 (n' : Int)))).trans (kept_set _ g 6 (.slice x.A l' x.cap))
                exact ⟨⟨c', k', p', h', o', n', x.A, l', x.cap⟩, hb, bytes_take HX.out.da (by have h := HNR.out.2; show l' ≤ x.len; rw [h]; exact Nat.min_le_left _ _) ((Grow.kept (HGI.out.trans HGC.out)).trans hk) (fun k hk e => by have e : k = g := e; have := HGG.out; have := HGI.out.size; omega), by have := HNR.out.1; show (o' : Int) ≤ _; omega, hk⟩
              · go_meet
                exact ⟨x, HCB.out, bytes_take HX.out.da (Nat.le_refl _) (HGI.out.trans HGC.out) (fun _ _ h => h), HX.out.oB.2, Kept.refl _ _⟩
            clear c0 c1 c2 c3 c4 c5 c6 cf
            case rest =>
              obtain ⟨y, hyb, hby, hoB, hk⟩ := hcut
              have HG2 : Hid (Grow wr wc) := HGC.out.then hk (fun k hk' e => by have e : k = g := e; have := HGG.out; omega)
              have HI2 := Lib.hid (HI1.out.grow HG2.out)
              obtain ⟨⟨s0, s1, s2, hsb, hsp⟩, ⟨x0, x1, x2, hv, hxb⟩, hsa, hgw⟩ := HI2.out
              obtain ⟨ST, kT, SB', kB, SH, kH, rfl, rfl, rfl⟩ := pat_sl hsp
              subst hv
              obtain ⟨d, hd, hdb, hl1, hl2⟩ := hby
              have hun := run_n (a := a) y.c ⟨y.k, y.p, y.h, y.o, y.n, d⟩
              obtain ⟨rc, rp, rh, rd, U, hr⟩ : ∃ rc rp rh rd U, a.run y.c ⟨y.k, y.p, y.h, y.o, y.n, d⟩ = (⟨rc, rp, rh, rd⟩, U) := ⟨_, _, _, _, _, rfl⟩
              rw [hr] at hun
              have HUN := Lib.hid hun
              have HDO := Lib.hid (t_do hsp y.c y.k y.p y.h y.o y.n hd hdb hl1 hl2 hoB hr)
              have HRD : Hid (∀ wx, Grow wc wx → Calls Try.prog 19 #[.agg #[x0, x1, x2], .int .i64 y.c, .agg #[.int .i64 y.k, .int .i64 y.p, .int .i64 y.h, .int .i64 y.o, .int .i64 y.n, .slice y.A y.len y.cap]] wx (DoPost (fun k => B ≤ k ∧ k < m) (.agg #[x0, x1, x2]) wx (⟨rc, rp, rh, rd⟩, U))) := fun wx hg => by
                have h := rdo_any (hsa.grow hg) (fun k hk => by have := hxb.lt; have := hg.size; omega) y.c (o := ⟨y.k, y.p, y.h, y.o, y.n, d⟩) ⟨_, _, _, rfl, sl_grow hd hg, hdb, hl1, hl2⟩
                rw [hr] at h
                exact h
              have HSB := Lib.hid hsb
              have HXB := Lib.hid hxb
              have HYB := Lib.hid hyb
              have s0 := hsb.cell 0
              have s1 := hsb.cell 1
              have s2 := hsb.cell 2
              have y0 := hyb.cell 0
              have y1 := hyb.cell 1
              have y2 := hyb.cell 2
              have y3 := hyb.cell 3
              have y4 := hyb.cell 4
              have y5 := hyb.cell 5
              have y6 := hyb.cell 6
              simp only [List.getElem?_cons_zero, List.getElem?_cons_succ] at s0 s1 s2 y0 y1 y2 y3 y4 y5 y6
              have hmg : m + 1 < g := by obtain ⟨_, ⟨_, _, _, _, h⟩, _⟩ := HI1.out; have := h.lt; have := HGG.out; omega
              have HMG := Lib.hid hmg
              clear hmg hyb hk hsb hsp hxb hsa hgw hd hdb hl1 hl2 hr hun hoB HI1 HNEAR HI2
              go_upto_region 15 with (go_at_call 12; (with_reducible refine HDO.out.mono ?_); rintro e wd ⟨XT, nT, jT, XB, nB, jB, XH, nH, jH, RA, rn, rcap, rfl, hpa, hre, hgd⟩; have HPD := Lib.hid hpa; have HRE := Lib.hid hre; have HGD := Lib.hid hgd; clear hpa hre hgd)
              clear s0 s1 s2 y0 y1 y2 y3 y4 y5 y6
              obtain ⟨p, hp⟩ : ∃ p, p = wd.heap.size := ⟨_, rfl⟩
              obtain ⟨ht1, ht2, hgt⟩ := two_box wd (.slice XT nT jT) (.slice XB nB jB) (.slice XH nH jH) (.int .i64 rc) (.int .i64 rp) (.int .i64 rh) (.slice RA rn rcap)
              have HLT : Hid (m + 1 < g ∧ g < p ∧ m + 1 < wc.heap.size) := ⟨HMG.out, by have := HGD.out.size; have := HYB.out.lt; omega, HXB.out.lt⟩
              rw [← hp] at ht1 ht2 ⊢
              generalize (wd.alloc (.cells #[.slice XT nT jT, .slice XB nB jB, .slice XH nH jH] 28)).alloc (.cells #[.int .i64 rc, .int .i64 rp, .int .i64 rh, .slice RA rn rcap] 31) = wt at ht1 ht2 hgt ⊢
              clear hp
              have HT1 := Lib.hid ht1.drew
              have HT2 := Lib.hid ht2.drew
              have HGT : Hid (Grow wc wt.drew) := (HGD.out.trans hgt).drew
              have HPT := Lib.hid (HPD.out.grow hgt.drew)
              have HRT := Lib.hid (sl_grow HRE.out.1 hgt.drew)
              have HXT := Lib.hid (HXB.out.grow HGT.out)
              have HYT := Lib.hid (HYB.out.grow HGT.out)
              have HST := Lib.hid (HSB.out.grow HGT.out)
              clear ht1 ht2 hgt HXB HYB HSB HPD HGD
              have q0 := up_cell (F := fun k => B ≤ k ∧ k < m) (w := wt.drew) (p := ⟨p + 1, 0, none⟩) (HT2.out.cell 0) (fun e => by have e : B ≤ p + 1 ∧ p + 1 < m := e; have := HLT.out; omega)
              have q1 := up_cell (F := fun k => B ≤ k ∧ k < m) (w := wt.drew) (p := ⟨p + 1, 1, none⟩) (HT2.out.cell 1) (fun e => by have e : B ≤ p + 1 ∧ p + 1 < m := e; have := HLT.out; omega)
              have q2 := up_cell (F := fun k => B ≤ k ∧ k < m) (w := wt.drew) (p := ⟨p + 1, 2, none⟩) (HT2.out.cell 2) (fun e => by have e : B ≤ p + 1 ∧ p + 1 < m := e; have := HLT.out; omega)
              have q3 := up_cell (F := fun k => B ≤ k ∧ k < m) (w := wt.drew) (p := ⟨p + 1, 3, none⟩) (HT2.out.cell 3) (fun e => by have e : B ≤ p + 1 ∧ p + 1 < m := e; have := HLT.out; omega)
              have r0 := up_cell (F := fun k => B ≤ k ∧ k < m) (w := wt.drew) (p := ⟨m + 1, 0, none⟩) (HXT.out.cell 0) (fun e => by have e : B ≤ m + 1 ∧ m + 1 < m := e; have := HLT.out; omega)
              have r1 := up_cell (F := fun k => B ≤ k ∧ k < m) (w := wt.drew) (p := ⟨m + 1, 1, none⟩) (HXT.out.cell 1) (fun e => by have e : B ≤ m + 1 ∧ m + 1 < m := e; have := HLT.out; omega)
              have r2 := up_cell (F := fun k => B ≤ k ∧ k < m) (w := wt.drew) (p := ⟨m + 1, 2, none⟩) (HXT.out.cell 2) (fun e => by have e : B ≤ m + 1 ∧ m + 1 < m := e; have := HLT.out; omega)
              have y0 := up_cell (F := fun k => B ≤ k ∧ k < m) (w := wt.drew) (p := ⟨g, 0, none⟩) (HYT.out.cell 0) (fun e => by have e : B ≤ g ∧ g < m := e; have := HLT.out; omega)
              have y1 := up_cell (F := fun k => B ≤ k ∧ k < m) (w := wt.drew) (p := ⟨g, 1, none⟩) (HYT.out.cell 1) (fun e => by have e : B ≤ g ∧ g < m := e; have := HLT.out; omega)
              have y2 := up_cell (F := fun k => B ≤ k ∧ k < m) (w := wt.drew) (p := ⟨g, 2, none⟩) (HYT.out.cell 2) (fun e => by have e : B ≤ g ∧ g < m := e; have := HLT.out; omega)
              have y3 := up_cell (F := fun k => B ≤ k ∧ k < m) (w := wt.drew) (p := ⟨g, 3, none⟩) (HYT.out.cell 3) (fun e => by have e : B ≤ g ∧ g < m := e; have := HLT.out; omega)
              have y4 := up_cell (F := fun k => B ≤ k ∧ k < m) (w := wt.drew) (p := ⟨g, 4, none⟩) (HYT.out.cell 4) (fun e => by have e : B ≤ g ∧ g < m := e; have := HLT.out; omega)
              have y5 := up_cell (F := fun k => B ≤ k ∧ k < m) (w := wt.drew) (p := ⟨g, 5, none⟩) (HYT.out.cell 5) (fun e => by have e : B ≤ g ∧ g < m := e; have := HLT.out; omega)
              have y6 := up_cell (F := fun k => B ≤ k ∧ k < m) (w := wt.drew) (p := ⟨g, 6, none⟩) (HYT.out.cell 6) (fun e => by have e : B ≤ g ∧ g < m := e; have := HLT.out; omega)
              refine wp_region_stages (Kept (fun k => B ≤ k ∧ k < m)) (kept_refl _) (kept_trans _) [([0, 1, 2, 3, 4, 5], 6), ([], 7), ([8, 9, 10, 11], 12), ([13, 14, 15, 16], 17)] [18, 19] (by kernel_rfl) (by kernel_rfl) ?_
              simp only [selSt, sel, List.map_cons, List.map_nil, List.getD_cons_succ, List.getD_cons_zero]
              refine st_cons fun K1 hK1 => ?_
              repeat (go_big_quiet_step (fail))
              refine wpQuiet_nil ?_
              clear q0 q1 q2 q3 r0 r1 r2 y0 y1 y2 y3 y4 y5 y6
              go_wp2_with (go_at_call 19; (with_reducible refine (HRD.out _ HGT.out).mono ?_); rintro e w4 ⟨⟨rv, rfl, RB, rm, rcb, rfl, hz, _⟩, hs4, hk4⟩; have HZ4 := Lib.hid hz; have HS4 := Lib.hid hs4; have HK4 := Lib.hid hk4; clear hz hs4 hk4)
              refine norm_up (hK1 _ _ HK4.out (st_cons fun K2 hK2 => wpQuiet_nil ?_))
              clear hK1 K1
              have HR4 := Lib.hid (sl_keptF HRT.out HK4.out fun hn x hx e => by have e : B ≤ x.block ∧ x.block < m := e; have := HRE.out.2.1 hn x hx; have := HLT.out; omega)
              obtain rfl : rm = rn := HZ4.out.len.symm.trans HR4.out.len
              go_wp2_with (go_at_call 20; (with_reducible refine (rsame_true HR4.out HZ4.out).mono ?_); rintro e w5 ⟨rfl, hg5⟩; have HG5 := Lib.hid hg5; clear hg5)
              refine norm_up (hK2 _ _ (Grow.kept HG5.out) (st_cons fun K3 hK3 => ?_))
              clear hK2 K2
              have HK5 : Hid (Kept (fun k => B ≤ k ∧ k < m) wt.drew w5) := HK4.out.trans (Grow.kept HG5.out)
              have HS5 := Lib.hid (HS4.out.grow HG5.out)
              have HP5 := Lib.hid (HPT.out.kept HK5.out fun k hk e => by have e : B ≤ k ∧ k < m := e; have hk : wc.heap.size ≤ k := hk; have := HLT.out; omega)
              have r0 := up_cell (F := fun k => B ≤ k ∧ k < m) (w := w5) (p := ⟨m + 1, 0, none⟩) ((HXT.out.kept HK5.out fun e => by have e : B ≤ m + 1 ∧ m + 1 < m := e; omega).cell 0) (fun e => by have e : B ≤ m + 1 ∧ m + 1 < m := e; have := HLT.out; omega)
              have r1 := up_cell (F := fun k => B ≤ k ∧ k < m) (w := w5) (p := ⟨m + 1, 1, none⟩) ((HXT.out.kept HK5.out fun e => by have e : B ≤ m + 1 ∧ m + 1 < m := e; omega).cell 1) (fun e => by have e : B ≤ m + 1 ∧ m + 1 < m := e; have := HLT.out; omega)
              have r2 := up_cell (F := fun k => B ≤ k ∧ k < m) (w := w5) (p := ⟨m + 1, 2, none⟩) ((HXT.out.kept HK5.out fun e => by have e : B ≤ m + 1 ∧ m + 1 < m := e; omega).cell 2) (fun e => by have e : B ≤ m + 1 ∧ m + 1 < m := e; have := HLT.out; omega)
              have t0 := up_cell (F := fun k => B ≤ k ∧ k < m) (w := w5) (p := ⟨p, 0, none⟩) ((HT1.out.kept HK5.out fun e => by have e : B ≤ p ∧ p < m := e; have := HLT.out; omega).cell 0) (fun e => by have e : B ≤ p ∧ p < m := e; have := HLT.out; omega)
              have t1 := up_cell (F := fun k => B ≤ k ∧ k < m) (w := w5) (p := ⟨p, 1, none⟩) ((HT1.out.kept HK5.out fun e => by have e : B ≤ p ∧ p < m := e; have := HLT.out; omega).cell 1) (fun e => by have e : B ≤ p ∧ p < m := e; have := HLT.out; omega)
              have t2 := up_cell (F := fun k => B ≤ k ∧ k < m) (w := w5) (p := ⟨p, 2, none⟩) ((HT1.out.kept HK5.out fun e => by have e : B ≤ p ∧ p < m := e; have := HLT.out; omega).cell 2) (fun e => by have e : B ≤ p ∧ p < m := e; have := HLT.out; omega)
              repeat (go_big_quiet_step (fail))
              refine wpQuiet_nil ?_
              clear r0 r1 r2 t0 t1 t2
              go_wp2_with (go_at_call 21; (with_reducible refine (is_true HS5.out HP5.out.seen).mono ?_); rintro e w6 ⟨rfl, hg6⟩; have HG6 := Lib.hid hg6; clear hg6)
              refine norm_up (hK3 _ _ (Grow.kept HG6.out) (st_cons fun K4 hK4 => ?_))
              clear hK3 K3
              have HK6 : Hid (Kept (fun k => B ≤ k ∧ k < m) wt.drew w6) := HK5.out.trans (Grow.kept HG6.out)
              have HP6 := Lib.hid (HP5.out.grow HG6.out)
              have t0 := up_cell (F := fun k => B ≤ k ∧ k < m) (w := w6) (p := ⟨p, 0, none⟩) ((HT1.out.kept HK6.out fun e => by have e : B ≤ p ∧ p < m := e; have := HLT.out; omega).cell 0) (fun e => by have e : B ≤ p ∧ p < m := e; have := HLT.out; omega)
              have t1 := up_cell (F := fun k => B ≤ k ∧ k < m) (w := w6) (p := ⟨p, 1, none⟩) ((HT1.out.kept HK6.out fun e => by have e : B ≤ p ∧ p < m := e; have := HLT.out; omega).cell 1) (fun e => by have e : B ≤ p ∧ p < m := e; have := HLT.out; omega)
              have t2 := up_cell (F := fun k => B ≤ k ∧ k < m) (w := w6) (p := ⟨p, 2, none⟩) ((HT1.out.kept HK6.out fun e => by have e : B ≤ p ∧ p < m := e; have := HLT.out; omega).cell 2) (fun e => by have e : B ≤ p ∧ p < m := e; have := HLT.out; omega)
              repeat (go_big_quiet_step (fail))
              refine wpQuiet_nil ?_
              clear t0 t1 t2
              go_wp2_with (go_at_call 15; (with_reducible refine (t_may HP6.out).mono ?_); rintro e w7 ⟨rfl, hg7⟩; have HG7 := Lib.hid hg7; clear hg7)
              refine norm_up (hK4 _ _ (Grow.kept HG7.out) (st_nil fun K5 hK5 => ?_))
              clear hK4 K4
              repeat (go_big_quiet_step (fail))
              refine wpQuiet_nil (hK5 _ ?_)
              clear hK5 K5
              have HG67 : Hid (Grow w5 w7) := HG6.out.trans HG7.out
              have HK7 : Hid (Kept (fun k => B ≤ k ∧ k < m) wt.drew w7) := HK5.out.trans (Grow.kept HG67.out)
              have HS7 := Lib.hid (HS5.out.grow HG67.out)
              have HP7 := Lib.hid (HP6.out.grow HG7.out)
              have HB7 := Lib.hid (HST.out.kept HK7.out fun e => by have e : B ≤ m ∧ m < m := e; omega)
              have HX7 := Lib.hid (HXT.out.kept HK7.out fun e => by have e : B ≤ m + 1 ∧ m + 1 < m := e; omega)
              have HT7 := Lib.hid (HT1.out.kept HK7.out fun e => by have e : B ≤ p ∧ p < m := e; have := HLT.out; omega)
              have HGW : Hid (Grow w w7) := ((HGI.out.trans HG2.out).trans HGT.out).then HK7.out fun k hk e => by have e : B ≤ k ∧ k < m := e; have := HBM.out; omega
              have t0 := HT7.out.cell 0
              have t1 := HT7.out.cell 1
              have t2 := HT7.out.cell 2
              have b0 := HB7.out.cell 0
              have b1 := HB7.out.cell 1
              have b2 := HB7.out.cell 2
              have bf := HB7.out.frozen
              simp only [List.getElem?_cons_zero, List.getElem?_cons_succ] at t0 t1 t2 b0 b1 b2
              go_wp2
              go_roundg (gk - 1)
              case measure => have := HG.out; have := HJ.out; omega
              case rel =>
                have hk := PmD.put3_kept w7 m (.slice XT nT jT) (.slice XB nB jB) (.slice XH nH jH) (F := fun k => k = m) fun k e => e
                refine ⟨j + 1, by have := HG.out; have := HJ.out; omega, by go_num, U, HUN.out.1.trans HAN.out.1, HUN.out.2.trans HAN.out.2, ⟨_, _, _, PmD.put3_blk HB7.out, ?_⟩, ⟨x0, x1, x2, rfl, HX7.out.kept hk fun e => by have e : m + 1 = m := e; omega⟩, HS7.out.kept hk fun k hk e => by have e : k = m := e; have hk : B ≤ k ∧ k < m := hk; omega, HGW.out.then hk fun k hk e => by have e : k = m := e; have := HBM.out; omega⟩
                exact (HP7.out.mono (X := fun k => k < B ∨ m + 1 < k) fun k _ hk => .inr (by have hk : wc.heap.size ≤ k := hk; have := HLT.out; omega)).kept hk fun k hk e => by have e : k = m := e; have hk : k < B ∨ m + 1 < k := hk; have := HBM.out; omega
        · obtain rfl : j = len2 := by have := HG.out; omega
          clear hj
          go_wp2_with (go_at_call 10; (with_reducible refine (told_any _).mono ?_); rintro e wt ⟨rfl, hge⟩; have HGE := Lib.hid hge; clear hge)
          go_ret
          exact ⟨rfl, Grow.below (HGI.out.trans HGE.out)⟩
  · have CN := Lib.hid (new_bad a0 a1 w hpg)
    have CR : Hid (∀ wx, Calls Try.prog 25 #[.int .i64 a0, .int .i64 a1] wx (RZeroP wx)) := fun wx => rnew_bad a0 a1 wx hpg
    clear hpg
    go_enter Try.func5, Try.ntmps5
    go_upto_region 2 with (first
      | (go_at_call 11; (with_reducible refine CN.out.mono ?_); rintro e w1 ⟨rfl, hg⟩; have HG1 := Lib.hid hg; clear hg)
      | (go_at_call 25; (with_reducible refine (CR.out _).mono ?_); rintro e w2 ⟨rfl, hg⟩; have HG2 := Lib.hid hg; clear hg))
    obtain ⟨hg, hb1, hb2⟩ := boxes w2 (.slice none 0 0) (.slice none 0 0) (.slice none 0 0) (.slice none 0 0) (.slice none 0 0) (.slice none 0 0)
    have HG : Hid (Grow w ((w2.alloc (.cells #[.slice none 0 0, .slice none 0 0, .slice none 0 0] 28)).alloc (.cells #[.slice none 0 0, .slice none 0 0, .slice none 0 0] 41))) := (HG1.out.trans HG2.out).trans hg
    have HB1 := Lib.hid hb1
    have c0 := hb2.cell 0
    simp only [List.getElem?_cons_zero] at c0
    generalize (w2.alloc (.cells #[.slice none 0 0, .slice none 0 0, .slice none 0 0] 28)).alloc (.cells #[.slice none 0 0, .slice none 0 0, .slice none 0 0] 41) = w3 at HG HB1 c0 ⊢
    clear hg hb1 hb2 CN CR HG1 HG2
    go_upto_region 3 with (fail)
    go_wp2_with (go_at_call 10; (with_reducible refine (told_any _).mono ?_); rintro e wt ⟨rfl, hge⟩; have HGE := Lib.hid hge; have c1 := (HB1.out.grow hge).cell 0; simp only [List.getElem?_cons_zero] at c1; clear hge)
    go_ret
    exact ⟨rfl, Grow.below (HG.out.trans HGE.out)⟩

/-! ### THE ROW's STEP: WRITTEN OUT: LEAVE IT -/
set_option maxRecDepth 100000 in
theorem lifted (os : Os) (started : os.Started) (H : Type) (enc : TypeId × Value → H) :
    ReturnsInHanded {} Try.checked os 5 .any (Rows.modelPlaysSpec.pre6 enc Try.prog Try.f5 Rows.modelPlaysRow.domain false) (Rows.modelPlaysSpec.post enc Try.prog Try.f5 false true false false) := by
  refine returnsInHanded_of_change (C := Try.checked) own started (by kernel_rfl) Try.func5
    (ChangeSpec.witness6 (enc := enc) (C := Try.checked) false ⟨#[], #[.int .i64 0, .int .i64 0, .slice none 0 0, .int .i64 0], []⟩ 8 (by kernel_rfl) (by kernel_rfl) (by kernel_rfl) (by kernel_rfl)) ?_
  intro W base args ds gs before hval0 hW hcnd _
  have hval : ∀ (j : Nat) t v, Try.f5.params[j]? = some t → args[j]? = some v → Value.okWide Try.prog W .any base t v := hval0
  have hW' := hW
  obtain ⟨p, q, hA0, hV, rfl, hfz, hnd⟩ := hW
  have hA : DataW.TrodAll enc Try.prog W 0 (fun _ => true) true Try.f5.params.toList args.toList ds p := hA0
  rw [Try.params5] at hA hval
  obtain ⟨v0, vs0, d0, ds0, p0, q0, hargs, rfl, rfl, h0, r0⟩ := trodAll_cons hA
  obtain ⟨v1, vs1, d1, ds1, p1, q1, rfl, rfl, rfl, h1, r1⟩ := trodAll_cons r0
  obtain ⟨v2, vs2, d2, ds2, p2, q2, rfl, rfl, rfl, h2, r2⟩ := trodAll_cons r1
  obtain ⟨v3, vs3, d3, ds3, p3, q3, rfl, rfl, rfl, h3, r3⟩ := trodAll_cons r2
  obtain ⟨rfl, rfl, rfl⟩ := trodAll_nil r3
  obtain rfl : args = #[v0, v1, v2, v3] := by cases args; simp_all
  obtain ⟨rfl, rfl⟩ := trodVars_none hV
  obtain ⟨a0, rfl, rfl, rfl, w0⟩ := open_int Try.underlying3 (hval 0 3 v0 rfl rfl) h0
  obtain ⟨a1, rfl, rfl, rfl, w1⟩ := open_int Try.underlying3 (hval 1 3 v1 rfl rfl) h1
  obtain ⟨a2, len2, cap2, rfl⟩ := okWide_slice Try.underlying51 (hval 2 51 v2 rfl rfl)
  have k2 := h2
  have lt2 : ∀ x ∈ p2, x.block < W.heap.size := by obtain ⟨m, hm⟩ := k2; exact DataW.trod_lt m _ _ _ hm
  have w2 : CallsAt W a2 len2 cap2 := by obtain ⟨fuel, hf⟩ := h2; exact calls_open hf
  obtain ⟨a3, rfl, rfl, rfl, w3⟩ := open_int Try.underlying3 (hval 3 3 v3 rfl rfl) h3
  clear hA0 hval0
  refine (walk a0 a1 a2 len2 cap2 a3 W w0 w1 w2 w3).mono fun e W' ⟨he, bel⟩ => ?_
  subst he
  exact ⟨_, rfl, _, _, _, [], _, [], hW', trodAll_mk1 (shut_bool Try.underlying4 _), (trodAll_cons_mk (shut_int Try.underlying3 w0) (trodAll_cons_mk (shut_int Try.underlying3 w1) (trodAll_cons_mk (Below.trod laidOut (by kernel_rfl) (of_decide_eq_true (by kernel_rfl)) k2 bel lt2) (trodAll_cons_mk (shut_int Try.underlying3 w3) trodAll_mk0)))), rfl, bel.frame _, fun h => by cases h⟩

theorem over : Rows.modelPlaysRow.holds Try.pinned (OpenSpec.ofChange Rows.modelPlaysSpec) :=
  OpenClaim.holds_of_wide 5 Try.f5 rfl rfl rfl rfl rfl rfl rfl ⟨rfl, rfl, rfl, rfl, rfl⟩ rfl rfl rfl rfl rfl (by kernel_rfl) Try.func5 (by kernel_rfl)
    (of_decide_eq_true (by kernel_rfl)) (by unfold Func.isWrapper; first | (rw [if_pos (by decide +kernel)]; kernel_rfl) | (rw [if_neg (by decide +kernel)]; exact ⟨rfl, rfl⟩))
    (fun os started H enc _ => lifted os started H enc)

/-- ████ THE STATEMENT ████ -/
theorem proved : Rows.ModelPlaysSaid := over
#print axioms proved
end Go.Proofs.Yteiodnclpbjbbaa.modelPlays
