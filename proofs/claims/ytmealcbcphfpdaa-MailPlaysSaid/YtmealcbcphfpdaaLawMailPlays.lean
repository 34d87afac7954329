/-
  For every input the call of lavabolaw9.MailPlays returns true and leaves its arguments as they were; no condition.
-/
import Derived.Test.YtmealcbcphfpdaaTold9
import Derived.Test.YtmealcbcphfpdaaMRefTake
import Derived.Test.YtmealcbcphfpdaaMailSteps
import Derived.Test.YtmealcbcphfpdaaPairs
import Derived.Test.YtmealcbcphfpdaaRows
import Derived.WalkKit
import Derived.ProofKit
import Derived.OpenShut
import Derived.ShutString
import Derived.ChangeOld
import Derived.Below
namespace Go.Proofs.Ytmealcbcphfpdaa.mailPlays
open Go.ChangeShapes Go.WideShapes Go.ChangeAt Go.RowKit
open Go.ChangeMaps (open_string shut_string)
open Go.Conc
open Go.Proofs.Ytmealcbcphfpdaa.Mem Go.Proofs.Ytmealcbcphfpdaa.Blk Go.Proofs.Ytmealcbcphfpdaa.Cells Go.Proofs.Ytmealcbcphfpdaa.Chan Go.Proofs.Ytmealcbcphfpdaa.Prs Go.Proofs.Ytmealcbcphfpdaa.MailM Go.Proofs.Ytmealcbcphfpdaa.MailC Go.Proofs.Ytmealcbcphfpdaa.MailT Go.Proofs.Ytmealcbcphfpdaa.MailP Go.Proofs.Ytmealcbcphfpdaa.MailK Go.Proofs.Ytmealcbcphfpdaa.MailH Go.Proofs.Ytmealcbcphfpdaa.Told9 Go.Proofs.Ytmealcbcphfpdaa.MRefC Go.Proofs.Ytmealcbcphfpdaa.MRefP Go.Proofs.Ytmealcbcphfpdaa.MRefH Go.Proofs.Ytmealcbcphfpdaa.MRefK Go.Proofs.Ytmealcbcphfpdaa.PairsC Go.Proofs.Ytmealcbcphfpdaa.Ops3 Go.Proofs.Ytmealcbcphfpdaa.Stages
set_option linter.unusedVariables false

theorem own : ownKnob Try.prog.godebug = none := by kernel_rfl
theorem laidOut : laidOutB Try.prog = true := by kernel_rfl

/-- WHAT THE WALK IS TOLD OF A SLICE OF INTEGERS THAT CAME IN: it is nil; or it leads to a row of 'cap' cells, the numbers 'zs' (the first 'len' are its elements, the rest its spare room), each fitting its kind. -/
def IsRow (k : IntKind) (w : World) (a : Option Addr) (len cap : Nat) (zs : List Int) : Prop :=
  (a = none ∧ len = 0 ∧ cap = 0 ∧ zs = []) ∨
  ∃ x, a = some x ∧ len ≤ cap ∧ cap ≤ maxLen ∧ zs.length = cap ∧ (∀ i, i < zs.length → w.cell? (x.add i) = some (.int k (zs.getD i 0))) ∧ ∀ n ∈ zs, (Lit.int k n).wf = true

theorem kind8 (a : Int) : ∃ (m K : Int), a.tmod 8 = m ∧ -8 < m ∧ m < 8 ∧ (m + 8).tmod 8 = K ∧ 0 ≤ K ∧ K < 8 := by
  have key : ∀ b : Int, 0 ≤ b → 0 ≤ b.tmod 8 ∧ b.tmod 8 < 8 := fun b hb => by
    rw [IntWalk.rem_in _ _ hb]
    omega
  have hb : -8 < a.tmod 8 ∧ a.tmod 8 < 8 := by
    by_cases h : 0 ≤ a
    · have := key a h
      omega
    · have := key (-a) (by omega)
      rw [Int.neg_tmod] at this
      omega
  obtain ⟨h0, h8⟩ := key (a.tmod 8 + 8) (by omega)
  exact ⟨_, _, rfl, hb.1, hb.2, rfl, h0, h8⟩
/-- Both boxes: the same words, the same answers, the same are open. -/
structure BTwo (w : World) (B d m : Nat) (b : Bx) (wx : World) : Prop where
  a : BoxAt wx B d b
  r : MRef wx m d b
  g : Grow w wx
structure Apart (w : World) (B d m : Nat) : Prop where
  dm : d ≠ m
  ld : w.heap.size ≤ d
  lm : w.heap.size ≤ m
  lB : w.heap.size ≤ B
/-- What either box's calls may write. -/
def AllF (B d m : Nat) (w : World) (k : Nat) : Prop := BF B d w k ∨ k = m
section
variable {w wx wy wz : World} {B d m : Nat} {b b' : Bx} {us : List P2}
theorem BTwo.mid (h : BTwo w B d m b wx) (hk : Kept (BF B d wx) wx wy) : MRef wy m d b := h.r.kept hk fun k x => by
  rcases x with e | ⟨_, x⟩
  · exact .inl e
  · exact .inr x
theorem BTwo.op (h : BTwo w B d m b wx) (ap : Apart w B d m) (hr : BoxAt wy B d b') (hk : Kept (BF B d wx) wx wy) (hq : MRef wz m d b') (hk2 : Kept (· = m) wy wz) : BTwo w B d m b' wz :=
  ⟨hr.kept hk2 ap.dm (fun k e => by subst e; exact (h.mid hk).notChan), hq, (BF.final h.g hk ap.lB ap.ld).then hk2 fun i hi e => by have := ap.lm; omega⟩
theorem BTwo.grow (h : BTwo w B d m b wx) (hk : Grow wx wy) : BTwo w B d m b wy := ⟨h.a.grow hk, h.r.grow hk, h.g.trans hk⟩
theorem BTwo.low (h : BTwo w B d m b wx) : d < wx.heap.size ∧ m < wx.heap.size := ⟨h.a.lt, h.r.lt⟩
end
def PInv (w : World) (B d m : Nat) (wx : World) : Prop := ∃ b, BTwo w B d m b wx
def PLoop (w : World) (B d m M g : Nat) (i : Value) (wx : World) : Prop := ∃ j : Nat, j + g = M ∧ i = .int .i64 (j : Int) ∧ PInv w B d m wx

/-! ### STEP 1: THE WALK: the Go text returns true, AND WRITES NOTHING THAT WAS THERE: 'Below w.heap.size w w'' (Derived/Below.lean: '.refl', '.alloc', '.drew', '.setCell' at a new block, '.trans'). Open each 'IsRow' by 'rcases' AHEAD of 'go_enter'; part every test ahead of the walk. -/
set_option maxHeartbeats 8000000 in
set_option maxRecDepth 100000 in
theorem walk (a0 : Option Addr) (len0 cap0 : Nat) (w : World) (w0 : OpsAt w a0 len0 cap0) :
    Calls Try.prog 3 #[.slice a0 len0 cap0] w fun e w' => e = .returned (.bool true) ∧ Below w.heap.size w w' := by
  obtain ⟨hlc, hcm, hops⟩ := w0
  unfold maxLen at hcm
  have HOPS := Lib.hid hops
  clear hops
  go_enter Try.func3, Try.ntmps3
  by_cases h200 : 200 < len0
  · have h200z : (200 : Int) < (len0 : Int) := by omega
    go_wp2_with (first
      | (go_at_call 6; (with_reducible refine new_any.mono ?_); rintro e w1 ⟨rfl, hr, hg⟩; have G0 := Lib.hid hg; clear hr hg)
      | (go_at_call 7; (with_reducible refine (told_any _).mono ?_); rintro e w3 ⟨rfl, hge⟩; have HGE := Lib.hid hge; clear hge))
    go_ret
    exact ⟨rfl, Grow.below ((G0.out.trans ((Kept.refl _ _).alloc _)).trans HGE.out)⟩
  · have h200z : (len0 : Int) ≤ 200 := by omega
    clear h200
    go_upto_block 0 with (go_at_call 6; (with_reducible refine new_any.mono ?_); rintro e w1 ⟨rfl, hr, hg⟩; have HR0 := Lib.hid (hr _ (Nat.le_refl _)); have G0 := Lib.hid hg; clear hr hg)
    have hd1 := HR0.out.lt
    have HAP : Hid (Apart w w.heap.size w.heap.size w1.heap.size) := ⟨by omega, Nat.le_refl _, G0.out.size, Nat.le_refl _⟩
    have hga : Grow w1 (w1.alloc (.cells #[.slice none 0 0, .slice none 0 0, .slice none 0 0] 29)) := (Kept.refl _ _).alloc _
    have HT0 : Hid (BTwo w w.heap.size w.heap.size w1.heap.size ⟨[], [], []⟩ (w1.alloc (.cells #[.slice none 0 0, .slice none 0 0, .slice none 0 0] 29))) :=
      ⟨HR0.out.grow hga, ⟨⟨none, none, none, 0, 0, 0, Row.of_blk (Blk.new w1 _ [.slice none 0 0, .slice none 0 0, .slice none 0 0]) rfl (fun i hi => by
        have : i = 0 ∨ i = 1 ∨ i = 2 := by omega
        rcases this with rfl | rfl | rfl <;> rfl), ⟨Pl.nil _ _ _, ⟨Nat.le_refl _, Nat.zero_le _⟩, fun x hx => by cases hx⟩, ⟨Pl.nil _ _ _, ⟨Nat.le_refl _, Nat.zero_le _⟩, fun x hx => by cases hx⟩, ⟨Sl.nil _ _ _ _, ⟨Nat.le_refl _, Nat.zero_le _⟩, fun x hx => by cases hx⟩⟩, fun e => HAP.out.dm e.symm⟩, G0.out.trans hga⟩
    clear hga hd1 G0 HR0
    generalize w1.alloc (.cells #[.slice none 0 0, .slice none 0 0, .slice none 0 0] 29) = w2 at HT0 ⊢
    generalize w1.heap.size = m at HAP HT0 ⊢
    obtain ⟨B, hB⟩ : ∃ B, B = w.heap.size := ⟨_, rfl⟩
    have HBW := Lib.hid hB
    rw [← hB] at HAP HT0 ⊢
    clear hB
    go_wp2_with (fail)
    go_loopg [5] len0 (PLoop w B B m len0)
    case atStart => exact ⟨0, by omega, rfl, _, HT0.out⟩
    case round =>
      obtain ⟨j, hg, rfl, b, htw⟩ := hrel
      have HG := Lib.hid hg
      have HT := Lib.hid htw
      clear hg htw HT0
      by_cases hj : j < len0
      · have hjz : (j : Int) < (len0 : Int) := by omega
        obtain ⟨ab, ao, rfl, hab, hall⟩ := HOPS.out (by omega)
        obtain ⟨x, hx⟩ := hall j hj
        have hkx : ∀ o v, w.cell? ⟨ab, o, none⟩ = some v → wr.cell? ⟨ab, o, none⟩ = some v := fun o v h => HT.out.g.cellN h id
        have ck := hkx _ _ hx.k
        have cp := hkx _ _ hx.p
        have cv := hkx _ _ hx.v
        have kB := hx.kB
        have pB := hx.pB
        have vB := hx.vB
        obtain ⟨km, K, hkm, hk1, hk2, hK, hK0, hK8⟩ := kind8 x.k
        clear hall hx hkx
        go_upto_block 2 with (fail)
        have HA9 : Grow wr (wr.alloc (.cells #[.int .i64 x.k, .int .i64 x.p, .int .i64 x.v] 32)) := (Kept.refl _ _).alloc _
        have HT9 := Lib.hid (HT.out.grow HA9)
        have c1 := (Blk.new wr 32 [.int .i64 x.k, .int .i64 x.p, .int .i64 x.v]).cell 1
        have c2 := (Blk.new wr 32 [.int .i64 x.k, .int .i64 x.p, .int .i64 x.v]).cell 2
        simp only [List.getElem?_cons_zero, List.getElem?_cons_succ] at c1 c2
        have HAB : Hid (¬ AllF B B m (wr.alloc (.cells #[.int .i64 x.k, .int .i64 x.p, .int .i64 x.v] 32)).drew wr.heap.size) := fun h => by
          have h1 := HT.out.low
          rcases h with (e | ⟨_, e⟩) | e
          · omega
          · exact notChan_cells (Blk.new wr 32 [.int .i64 x.k, .int .i64 x.p, .int .i64 x.v]) e
          · omega
        clear HA9 hK hkm hk1 hk2 ck cp cv kB
        generalize wr.alloc (.cells #[.int .i64 x.k, .int .i64 x.p, .int .i64 x.v] 32) = wa at HT9 c1 c2 HAB ⊢
        generalize wr.heap.size = s6 at c1 c2 HAB ⊢
        generalize x.p = f at *
        generalize x.v = v at *
        have HC1 : Hid (wa.drew.cell? ⟨s6, 1, none⟩ = some (.int .i64 f)) := c1
        have HC2 : Hid (wa.drew.cell? ⟨s6, 2, none⟩ = some (.int .i64 v)) := c2
        have HTD := Lib.hid (HT9.out.grow (Kept.drew' wa))
        have HFIT := Lib.hid HT9.out.a.good
        have HLOW := Lib.hid HTD.out.low
        have HJ := Lib.hid hj
        clear hjz hj
        go_cut [8, 9, 10, 11] from 36 to 102 (fun _ _ _ _ wx => PInv w B B m wx)
        case first =>
          have hjz : (j : Int) < (len0 : Int) := by have := HJ.out; omega
          by_cases hk3 : K < 3
          · clear c1 c2
            have CD := Lib.hid (post_any HTD.out.a f v)
            have CR : Hid (∀ wy, Kept (BF B B wa.drew) wa.drew wy → Calls Try.prog 9 #[.pointer (some ⟨m, 0, none⟩), .int .i64 f, .int .i64 v] wy (QPost m B wy (.int .i64 (b.postE f)) (b.postB f v))) := fun wy hk => rpost_any (HTD.out.mid hk) HFIT.out f v (by have h1 := HLOW.out.1; have h2 := hk.size; omega)
            generalize b.postE f = r at *
            generalize b.postB f v = b2 at *
            clear hK0 hK8
            go_upto_region 16 with (fail)
            refine wp_region_stages (Kept (AllF B B m wa.drew)) (kept_refl _) (kept_trans _) [([0, 1, 2, 3, 4, 6, 7, 8, 9, 10], 5), ([], 11)] [12] (by kernel_rfl) (by kernel_rfl) ?_
            simp only [selSt, sel, List.map_cons, List.map_nil, List.getD_cons_succ, List.getD_cons_zero]
            refine st_cons fun K1 hK1 => ?_
            have u0 := up_cell (F := AllF B B m wa.drew) (w := wa.drew) (p := ⟨s6, 1, none⟩) HC1.out HAB.out
            have u1 := up_cell (F := AllF B B m wa.drew) (w := wa.drew) (p := ⟨s6, 2, none⟩) HC2.out HAB.out
            repeat (go_big_quiet_step (fail))
            refine wpQuiet_nil ?_
            clear u0 u1
            go_wp2_with (go_at_call 8; (with_reducible refine CD.out.mono ?_); rintro e w4 ⟨rfl, hr, hk⟩; have HR4 := Lib.hid hr; have HK4 := Lib.hid hk; clear hr hk)
            refine norm_up (hK1 _ _ (HK4.out.mono fun _ _ h => .inl h) (st_cons fun K2 hK2 => wpQuiet_nil ?_))
            clear hK1 K1
            go_wp2_with (go_at_call 9; (with_reducible refine (CR.out _ HK4.out).mono ?_); rintro e w5 ⟨rfl, hr, hk⟩; have HR5 := Lib.hid hr; have HK5 := Lib.hid hk; clear hr hk)
            refine norm_up (hK2 _ _ (HK5.out.mono fun _ _ h => .inr h) (st_nil fun K4 hK4 => ?_))
            clear hK2 K2
            repeat (go_big_quiet_step (fail))
            refine wpQuiet_nil (hK4 _ ?_)
            clear hK4 K4
            go_wp2
            go_meet
            exact ⟨_, HTD.out.op HAP.out HR4.out HK4.out HR5.out HK5.out⟩
          · by_cases hk4 : K = 3
            · subst hk4
              clear c1 c2
              have CD := Lib.hid (take_any HTD.out.a v)
              have CR : Hid (∀ wy, Kept (BF B B wa.drew) wa.drew wy → Calls Try.prog 12 #[.pointer (some ⟨m, 0, none⟩), .int .i64 v] wy (TQ m B wy (b.takeL v) (b.takeB v))) := fun wy hk => rtake_any (HTD.out.mid hk) HFIT.out v (by have h1 := HLOW.out.1; have h2 := hk.size; omega)
              have HTL : Hid ((b.takeL v).length ≤ 100000) := by have h1 := takeL_len b v; have h2 := tk_le b v; have h3 := HFIT.out.len; show _ ≤ 100000; omega
              generalize b.takeL v = us at *
              generalize b.takeB v = b2 at *
              clear hK0 hK8 hk3
              go_upto_region 19 with (fail)
              refine wp_region_stages (Kept (AllF B B m wa.drew)) (kept_refl _) (kept_trans _) [([0, 1, 2, 4, 5, 6], 3), ([], 7), ([], 8)] [9] (by kernel_rfl) (by kernel_rfl) ?_
              simp only [selSt, sel, List.map_cons, List.map_nil, List.getD_cons_succ, List.getD_cons_zero]
              refine st_cons fun K1 hK1 => ?_
              have u1 := up_cell (F := AllF B B m wa.drew) (w := wa.drew) (p := ⟨s6, 2, none⟩) HC2.out HAB.out
              repeat (go_big_quiet_step (fail))
              refine wpQuiet_nil ?_
              clear u1
              go_wp2_with (go_at_call 11; (with_reducible refine CD.out.mono ?_); rintro e w4 ⟨A4, c4, rfl, hs, hn, hr, hk⟩; have HR4 := Lib.hid hr; have HK4 := Lib.hid hk; have HS4 := Lib.hid hs; have HN4 := Lib.hid (fun x (hx : A4 = some x) (hm : x.block = m) => (by have h1 := hn x hx; have h2 := HLOW.out.2; omega : False)); clear hs hn hr hk)
              refine norm_up (hK1 _ _ (HK4.out.mono fun _ _ h => .inl h) (st_cons fun K2 hK2 => wpQuiet_nil ?_))
              clear hK1 K1
              go_wp2_with (go_at_call 12; (with_reducible refine (CR.out _ HK4.out).mono ?_); rintro e w5 ⟨A5, c5, rfl, hs, hr, hk⟩; have HR5 := Lib.hid hr; have HK5 := Lib.hid hk; have HS5 := Lib.hid hs; have HS6 := Lib.hid (Pl.kept HS4.out hk HN4.out); clear hs hr hk)
              refine norm_up (hK2 _ _ (HK5.out.mono fun _ _ h => .inr h) (st_cons fun K3 hK3 => wpQuiet_nil ?_))
              clear hK2 K2
              go_wp2_with (go_at_call 10; (with_reducible refine (pairs_true A4 A5 us.length c4 c5 _ _ _ HTL.out HS6.out HS5.out).mono ?_); rintro e w6 ⟨rfl, hk⟩; have HK6 := Lib.hid hk; clear hk)
              refine norm_up (hK3 _ _ (Grow.kept HK6.out) (st_nil fun K4 hK4 => ?_))
              clear hK3 K3
              repeat (go_big_quiet_step (fail))
              refine wpQuiet_nil (hK4 _ ?_)
              clear hK4 K4
              go_wp2
              go_meet
              exact ⟨_, (HTD.out.op HAP.out HR4.out HK4.out HR5.out HK5.out).grow HK6.out⟩
            · by_cases hk6 : K < 6
              · clear c1 c2
                have CD := Lib.hid (answer_any HTD.out.a f v)
                have CR : Hid (∀ wy, Kept (BF B B wa.drew) wa.drew wy → Calls Try.prog 14 #[.pointer (some ⟨m, 0, none⟩), .int .i64 f, .int .i64 v] wy (QPost m B wy (.int .i64 (b.ansE f)) (b.ansB f v))) := fun wy hk => ranswer_any (HTD.out.mid hk) HFIT.out f v (by have h1 := HLOW.out.1; have h2 := hk.size; omega)
                generalize b.ansE f = r at *
                generalize b.ansB f v = b2 at *
                have hk5 : (K == 3) = false := by rw [beq_eq_false_iff_ne]; exact hk4
                have hk3z : 3 ≤ K := by omega
                clear hK0 hK8 hk3
                go_upto_region 22 with (fail)
                refine wp_region_stages (Kept (AllF B B m wa.drew)) (kept_refl _) (kept_trans _) [([0, 1, 2, 3, 4, 6, 7, 8, 9, 10], 5), ([], 11)] [12] (by kernel_rfl) (by kernel_rfl) ?_
                simp only [selSt, sel, List.map_cons, List.map_nil, List.getD_cons_succ, List.getD_cons_zero]
                refine st_cons fun K1 hK1 => ?_
                have u0 := up_cell (F := AllF B B m wa.drew) (w := wa.drew) (p := ⟨s6, 1, none⟩) HC1.out HAB.out
                have u1 := up_cell (F := AllF B B m wa.drew) (w := wa.drew) (p := ⟨s6, 2, none⟩) HC2.out HAB.out
                repeat (go_big_quiet_step (fail))
                refine wpQuiet_nil ?_
                clear u0 u1
                go_wp2_with (go_at_call 13; (with_reducible refine CD.out.mono ?_); rintro e w4 ⟨rfl, hr, hk⟩; have HR4 := Lib.hid hr; have HK4 := Lib.hid hk; clear hr hk)
                refine norm_up (hK1 _ _ (HK4.out.mono fun _ _ h => .inl h) (st_cons fun K2 hK2 => wpQuiet_nil ?_))
                clear hK1 K1
                go_wp2_with (go_at_call 14; (with_reducible refine (CR.out _ HK4.out).mono ?_); rintro e w5 ⟨rfl, hr, hk⟩; have HR5 := Lib.hid hr; have HK5 := Lib.hid hk; clear hr hk)
                refine norm_up (hK2 _ _ (HK5.out.mono fun _ _ h => .inr h) (st_nil fun K4 hK4 => ?_))
                clear hK2 K2
                repeat (go_big_quiet_step (fail))
                refine wpQuiet_nil (hK4 _ ?_)
                clear hK4 K4
                go_wp2
                go_meet
                exact ⟨_, HTD.out.op HAP.out HR4.out HK4.out HR5.out HK5.out⟩
              · have CD := Lib.hid (hear_any HT9.out.a f)
                have CR : Hid (∀ wy, Kept (BF B B wa) wa wy → Calls Try.prog 16 #[.pointer (some ⟨m, 0, none⟩), .int .i64 f] wy (QPost m B wy (.tuple #[.int .i64 (b.hearV f), .bool (decide (b.st f = 3))]) (b.hearB f))) := fun wy hk => rhear_any (HT9.out.mid hk) HFIT.out f (by have h1 := HLOW.out.1; have h2 := hk.size; simp at h1; omega)
                generalize b.hearV f = r at *
                generalize b.hearB f = b2 at *
                have hk5 : (K == 3) = false := by rw [beq_eq_false_iff_ne]; exact hk4
                have hk3z : 3 ≤ K := by omega
                have hk6z : 6 ≤ K := by omega
                clear hK0 hK8 hk3 hk6
                have HAB' : Hid (¬ AllF B B m wa s6) := HAB.out
                have HCC := Lib.hid c1
                cases decide (b.st f = 3)
                all_goals
                  go_wp2_with (first
                    | (go_at_call 15; (with_reducible refine CD.out.mono ?_); rintro e w4 ⟨rfl, hr, hk⟩; have HR4 := Lib.hid hr; have HK4 := Lib.hid hk; have d1 := hk.cellN HCC.out (fun h => HAB'.out (.inl h)); clear hr hk)
                    | (go_at_call 16; (with_reducible refine (CR.out _ HK4.out).mono ?_); rintro e w5 ⟨rfl, hr, hk⟩; have HR5 := Lib.hid hr; have HK5 := Lib.hid hk; clear hr hk))
                  go_meet
                  exact ⟨_, HT9.out.op HAP.out HR4.out HK4.out HR5.out HK5.out⟩
        case rest =>
          obtain ⟨b2, htw⟩ := hcut
          have HT1 := Lib.hid htw
          have hjz : (j : Int) < (len0 : Int) := by have := HJ.out; omega
          obtain ⟨A0, A1, A2, k0, k1, k2, hrow, _⟩ := htw.r.hd
          have hcc := hrow.cell (i := 0) (by omega)
          simp only [mcell, if_true] at hcc
          have hLz : (b2.W.length : Int) ≤ 8 := by have := htw.a.good.len; omega
          have CL := Lib.hid (len_any (HT1.out.grow (Kept.drew' wc)).a)
          clear hrow htw c1 c2
          have HT2 := Lib.hid (HT1.out.grow (Kept.drew' wc))
          have hcd : wc.drew.cell? ⟨m, 0, none⟩ = some (.slice A0 b2.W.length k0) := hcc
          have HCD := Lib.hid hcd
          clear hcc hcd
          go_upto_region 24 with (fail)
          refine wp_region_stages Grow (kept_refl _) (kept_trans _) [([0, 2, 3, 4, 5, 6], 1)] [7] (by kernel_rfl) (by kernel_rfl) ?_
          simp only [selSt, sel, List.map_cons, List.map_nil, List.getD_cons_succ, List.getD_cons_zero]
          refine st_cons fun K1 hK1 => ?_
          have u0 := up_cell (F := fun _ => False) (w := wc.drew) HCD.out id
          repeat (go_big_quiet_step (fail))
          refine wpQuiet_nil ?_
          clear u0
          go_wp2_with (go_at_call 17; (with_reducible refine CL.out.mono ?_); rintro e w' ⟨rfl, rfl⟩)
          refine norm_up (hK1 _ _ (Kept.refl _ _) (st_nil fun K4 hK4 => ?_))
          clear hK1 K1
          repeat (go_big_quiet_step (fail))
          refine wpQuiet_nil (hK4 _ ?_)
          clear hK4 K4
          go_wp2
          go_roundg (len0 - (j + 1))
          case measure => have := HG.out; omega
          case rel => exact ⟨j + 1, by have := HG.out; have := HJ.out; omega, by go_num, b2, HT2.out⟩
      · obtain rfl : j = len0 := by have := HG.out; omega
        go_wp2_with (go_at_call 7; (with_reducible refine (told_any _).mono ?_); rintro e w3 ⟨rfl, hge⟩; have HGE := Lib.hid hge; clear hge)
        go_ret
        exact ⟨rfl, Grow.below (HT.out.g.trans HGE.out)⟩

/-! ### THE ROW's STEP: WRITTEN OUT: LEAVE IT -/
set_option maxRecDepth 100000 in
theorem lifted (os : Os) (started : os.Started) (H : Type) (enc : TypeId × Value → H) :
    ReturnsInHanded {} Try.checked os 3 .any (Rows.mailPlaysSpec.pre6 enc Try.prog Try.f3 Rows.mailPlaysRow.domain false) (Rows.mailPlaysSpec.post enc Try.prog Try.f3 false true false false) := by
  refine returnsInHanded_of_change (C := Try.checked) own started (by kernel_rfl) Try.func3
    (ChangeSpec.witness6 (enc := enc) (C := Try.checked) false ⟨#[], #[.slice none 0 0], []⟩ 8 (by kernel_rfl) (by kernel_rfl) (by kernel_rfl) (by kernel_rfl)) ?_
  intro W base args ds gs before hval0 hW hcnd _
  have hval : ∀ (j : Nat) t v, Try.f3.params[j]? = some t → args[j]? = some v → Value.okWide Try.prog W .any base t v := hval0
  have hW' := hW
  obtain ⟨p, q, hA0, hV, rfl, hfz, hnd⟩ := hW
  have hA : DataW.TrodAll enc Try.prog W 0 (fun _ => true) true Try.f3.params.toList args.toList ds p := hA0
  rw [Try.params3] at hA hval
  obtain ⟨v0, vs0, d0, ds0, p0, q0, hargs, rfl, rfl, h0, r0⟩ := trodAll_cons hA
  obtain ⟨rfl, rfl, rfl⟩ := trodAll_nil r0
  obtain rfl : args = #[v0] := by cases args; simp_all
  obtain ⟨rfl, rfl⟩ := trodVars_none hV
  obtain ⟨a0, len0, cap0, rfl⟩ := okWide_slice Try.underlying22 (hval 0 22 v0 rfl rfl)
  have k0 := h0
  have lt0 : ∀ x ∈ p0, x.block < W.heap.size := by obtain ⟨m, hm⟩ := k0; exact DataW.trod_lt m _ _ _ hm
  have w0 : OpsAt W a0 len0 cap0 := by obtain ⟨fuel, hf⟩ := h0; exact ops_open hf
  clear hA0 hval0
  refine (walk a0 len0 cap0 W w0).mono fun e W' ⟨he, bel⟩ => ?_
  subst he
  exact ⟨_, rfl, _, _, _, [], _, [], hW', trodAll_mk1 (shut_bool Try.underlying4 _), (trodAll_cons_mk (Below.trod laidOut (by kernel_rfl) (of_decide_eq_true (by kernel_rfl)) k0 bel lt0) trodAll_mk0), rfl, bel.frame _, fun h => by cases h⟩

theorem over : Rows.mailPlaysRow.holds Try.pinned (OpenSpec.ofChange Rows.mailPlaysSpec) :=
  OpenClaim.holds_of_wide 3 Try.f3 rfl rfl rfl rfl rfl rfl rfl ⟨rfl, rfl, rfl, rfl, rfl⟩ rfl rfl rfl rfl rfl (by kernel_rfl) Try.func3 (by kernel_rfl)
    (of_decide_eq_true (by kernel_rfl)) (by unfold Func.isWrapper; first | (rw [if_pos (by decide +kernel)]; kernel_rfl) | (rw [if_neg (by decide +kernel)]; exact ⟨rfl, rfl⟩))
    (fun os started H enc _ => lifted os started H enc)

/-- ████ THE STATEMENT ████ -/
theorem proved : Rows.MailPlaysSaid := over
#print axioms proved
end Go.Proofs.Ytmealcbcphfpdaa.mailPlays
