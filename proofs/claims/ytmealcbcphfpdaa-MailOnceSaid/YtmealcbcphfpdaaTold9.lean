/-
  lavabolaw9.told tells true, in every world.
-/
import Derived.Test.YtmealcbcphfpdaaMailHear
import Derived.Test.YtmealcbcphfpdaaPairEq
namespace Go.Proofs.Ytmealcbcphfpdaa.Told9
open Go.ChangeShapes Go.WideShapes Go.ChangeAt Go.RowKit Go.Conc
open Go.Proofs.Ytmealcbcphfpdaa.Mem Go.Proofs.Ytmealcbcphfpdaa.Blk Go.Proofs.Ytmealcbcphfpdaa.Cells Go.Proofs.Ytmealcbcphfpdaa.Chan Go.Proofs.Ytmealcbcphfpdaa.Prs Go.Proofs.Ytmealcbcphfpdaa.MailM Go.Proofs.Ytmealcbcphfpdaa.MailC Go.Proofs.Ytmealcbcphfpdaa.MailT Go.Proofs.Ytmealcbcphfpdaa.MailP Go.Proofs.Ytmealcbcphfpdaa.MailK Go.Proofs.Ytmealcbcphfpdaa.MailH Go.Proofs.Ytmealcbcphfpdaa.Stages

section
variable {w w1 w' : World} {B d : Nat} {b b' : Bx} {us : List P2}
theorem t_post (h : BoxAt w B d b) (f x r : Int) (b' : Bx) (hr : b.postE f = r) (hb : b.postB f x = b') : Calls Try.prog 8 #[.pointer (some ⟨d, 0, none⟩), .int .i64 f, .int .i64 x] w (RPost B d w (.int .i64 r) b') := by
  subst hr hb
  exact post_any h f x
theorem t_take (h : BoxAt w B d b) (n : Int) (us : List P2) (b' : Bx) (hu : b.takeL n = us) (hb : b.takeB n = b') : Calls Try.prog 11 #[.pointer (some ⟨d, 0, none⟩), .int .i64 n] w (KPost B d w us b') := by
  subst hu hb
  exact take_any h n
theorem t_answer (h : BoxAt w B d b) (t x r : Int) (b' : Bx) (hr : b.ansE t = r) (hb : b.ansB t x = b') : Calls Try.prog 13 #[.pointer (some ⟨d, 0, none⟩), .int .i64 t, .int .i64 x] w (RPost B d w (.int .i64 r) b') := by
  subst hr hb
  exact answer_any h t x
theorem t_hear (h : BoxAt w B d b) (m v : Int) (q : Bool) (b' : Bx) (hv : b.hearV m = v) (hq : decide (b.st m = 3) = q) (hb : b.hearB m = b') : Calls Try.prog 15 #[.pointer (some ⟨d, 0, none⟩), .int .i64 m] w (RPost B d w (.tuple #[.int .i64 v, .bool q]) b') := by
  subst hv hq hb
  exact hear_any h m
theorem t_len (h : BoxAt w B d b) (n : Int) (hn : (b.W.length : Int) = n) : Calls Try.prog 17 #[.pointer (some ⟨d, 0, none⟩)] w fun e w' => e = .returned (.int .i64 n) ∧ w = w' := by
  subst hn
  exact len_any h
/-- Whatever a box of the call's own did, nothing that was there has turned. -/
theorem BF.final (h : Grow w w1) (k : Kept (BF B d w1) w1 w') (hB : w.heap.size ≤ B) (hd : w.heap.size ≤ d) : Grow w w' :=
  h.then k fun i hi hf => by rcases hf with e | ⟨e, _⟩ <;> omega
end

set_option maxHeartbeats 4000000 in
theorem told_any (w : World) : Calls Try.prog 7 #[] w fun e w' => e = .returned (.bool true) ∧ Grow w w' := by
  go_enter Try.func7, Try.ntmps7
  go_upto_region 4 with (go_at_call 6; (with_reducible refine new_any.mono ?_); rintro e w0 ⟨rfl, hr, hg⟩; have HR := Lib.hid (hr _ (Nat.le_refl _)); have HG0 := Lib.hid hg; clear hr hg)
  generalize hB : w.heap.size = B at HR ⊢
  have HB := Lib.hid hB
  clear hB
  go_upto_region 7 with (first
    | (go_at_call 8; (with_reducible refine (t_post HR.out 3 7 0 ⟨[(3, 7)], [], []⟩ (by decide) (by decide)).mono ?_); rintro e w1 ⟨rfl, hr, hk⟩; have HR1 := Lib.hid hr; have HK1 := Lib.hid hk; clear hr hk)
    | (go_at_call 8; (with_reducible refine (t_post HR1.out 3 8 13 ⟨[(3, 7)], [], []⟩ (by decide) (by decide)).mono ?_); rintro e w2 ⟨rfl, hr, hk⟩; have HR2 := Lib.hid hr; have HK2 := Lib.hid hk; clear hr hk)
    | (go_at_call 8; (with_reducible refine (t_post HR2.out 5 9 0 ⟨[(3, 7), (5, 9)], [], []⟩ (by decide) (by decide)).mono ?_); rintro e w3 ⟨rfl, hr, hk⟩; have HR3 := Lib.hid hr; have HK3 := Lib.hid hk; clear hr hk)
    | (go_at_call 17; (with_reducible refine (t_len HR3.out 2 (by decide)).mono ?_); rintro e w' ⟨rfl, rfl⟩)
    | (go_at_call 11; (with_reducible refine (t_take HR3.out 1 [(3, 7)] ⟨[(5, 9)], [3], []⟩ (by decide) (by decide)).mono ?_); rintro e w4 ⟨A, k, rfl, hs, hn, hr, hk⟩; have HS := Lib.hid hs; have HX := Lib.hid hn; have HR4 := Lib.hid hr; have HK4 := Lib.hid hk; clear hs hn hr hk))
  have HAD : Hid (∀ x, A = some x → x.block ≠ B) := fun x hx e => by have h1 := HX.out x hx; have h2 := HR3.out.lt; omega
  go_upto_region 13 with (first
    | (go_at_call 13; (with_reducible refine (t_answer HR4.out 5 1 2 ⟨[(5, 9)], [3], []⟩ (by decide) (by decide)).mono ?_); rintro e w5 ⟨rfl, hr, hk⟩; have HR5 := Lib.hid hr; have HK5 := Lib.hid hk; clear hr hk)
    | (go_at_call 13; (with_reducible refine (t_answer HR5.out 3 2 0 ⟨[(5, 9)], [], [(3, 2)]⟩ (by decide) (by decide)).mono ?_); rintro e w6 ⟨rfl, hr, hk⟩; have HR6 := Lib.hid hr; have HK6 := Lib.hid hk; clear hr hk)
    | (go_at_call 8; (with_reducible refine (t_post HR6.out 3 1 13 ⟨[(5, 9)], [], [(3, 2)]⟩ (by decide) (by decide)).mono ?_); rintro e w7 ⟨rfl, hr, hk⟩; have HR7 := Lib.hid hr; have HK7 := Lib.hid hk; clear hr hk)
    | (go_at_call 15; (with_reducible refine (t_hear HR7.out 3 2 true ⟨[(5, 9)], [], []⟩ (by decide) (by decide) (by decide)).mono ?_); rintro e w8 ⟨rfl, hr, hk⟩; have HR8 := Lib.hid hr; have HK8 := Lib.hid hk; clear hr hk)
    | (go_at_call 15; (with_reducible refine (t_hear HR8.out 3 0 false ⟨[(5, 9)], [], []⟩ (by decide) (by decide) (by decide)).mono ?_); rintro e w9 ⟨rfl, hr, hk⟩; have HR9 := Lib.hid hr; have HK9 := Lib.hid hk; clear hr hk)
    | (go_at_call 8; (with_reducible refine (t_post HR9.out 3 1 0 ⟨[(5, 9), (3, 1)], [], []⟩ (by decide) (by decide)).mono ?_); rintro e w10 ⟨rfl, hr, hk⟩; have HR10 := Lib.hid hr; have HK10 := Lib.hid hk; clear hr hk))
  have HS10 := Lib.hid (BF.pl HK10.out (BF.pl HK9.out (BF.pl HK8.out (BF.pl HK7.out (BF.pl HK6.out (BF.pl HK5.out HS.out HAD.out) HAD.out) HAD.out) HAD.out) HAD.out) HAD.out)
  have HKA := Lib.hid (BF.trans (BF.trans (BF.trans (BF.trans HK1.out HK2.out) HK3.out) HK4.out) HK5.out)
  have HKB := Lib.hid (BF.trans (BF.trans (BF.trans (BF.trans (BF.trans HKA.out HK6.out) HK7.out) HK8.out) HK9.out) HK10.out)
  obtain ⟨b1, o1, rfl, _, hc⟩ := HS10.out.at_ (by decide)
  have q1 := (hc 0 (by decide)).1
  have q2 := (hc 0 (by decide)).2
  simp only [Nat.zero_mul, Nat.add_zero, List.getD_cons_zero, List.length_cons, List.length_nil, Nat.zero_add] at q1 q2 ⊢
  have hbd : b1 ≠ B := HAD.out _ rfl
  have qe := fun w => PairEq.eql_pair w 3 7 3 7
  simp only [beq_self_eq_true, Bool.and_self] at qe
  clear hc HS HX HAD HS10 HKA HR HR1 HR2 HR3 HR4 HR5 HR6 HR7 HR8 HR9 HK1 HK2 HK3 HK4 HK5 HK6 HK7 HK8 HK9 HK10
  go_wp2_with (first
    | (go_at_call 15; (with_reducible refine (hear_nil 1).mono ?_); rintro e w' ⟨rfl, rfl⟩)
    | (go_at_call 8; (with_reducible refine (t_post HR10.out 64 1 1 ⟨[(5, 9), (3, 1)], [], []⟩ (by decide) (by decide)).mono ?_); rintro e w11 ⟨rfl, hr, hk⟩; have HK11 := Lib.hid hk; clear hr hk)
    | (go_at_call 8; (with_reducible refine (post_nil 1 1).mono ?_); rintro e w' ⟨rfl, rfl⟩)
    | (go_at_call 11; (with_reducible refine (take_nil 3).mono ?_); rintro e w' ⟨rfl, rfl⟩))
  go_ret
  exact ⟨rfl, BF.final HG0.out (BF.trans HKB.out HK11.out) (by have := HB.out; omega) (by have := HB.out; omega)⟩
end Go.Proofs.Ytmealcbcphfpdaa.Told9
