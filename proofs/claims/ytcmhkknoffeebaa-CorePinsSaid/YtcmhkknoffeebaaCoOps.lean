/-
  Package core (chapter 11): take, Hit, Let, Order, New.
-/
import Derived.Test.YtcmhkknoffeebaaCo
namespace Go.Proofs.Ytcmhkknoffeebaa.CoO
open Go.ChangeShapes Go.WideShapes Go.ChangeAt Go.RowKit
open Go.Proofs.Ytcmhkknoffeebaa.Mem Go.Proofs.Ytcmhkknoffeebaa.Blk Go.Proofs.Ytcmhkknoffeebaa.Cells Go.Proofs.Ytcmhkknoffeebaa.Orow Go.Proofs.Ytcmhkknoffeebaa.ArM Go.Proofs.Ytcmhkknoffeebaa.ArC Go.Proofs.Ytcmhkknoffeebaa.ArD Go.Proofs.Ytcmhkknoffeebaa.ArR Go.Proofs.Ytcmhkknoffeebaa.ArT Go.Proofs.Ytcmhkknoffeebaa.ArB Go.Proofs.Ytcmhkknoffeebaa.ArN Go.Proofs.Ytcmhkknoffeebaa.ListM Go.Proofs.Ytcmhkknoffeebaa.CoM Go.Proofs.Ytcmhkknoffeebaa.CoC Go.Proofs.Ytcmhkknoffeebaa.RingA Go.Proofs.Ytcmhkknoffeebaa.RingT Go.Proofs.Ytcmhkknoffeebaa.Stages

section
variable {w w' : World} {G H F : Nat → Prop} {B d da dl Dl dr : Nat} {c : Co}
/-! ### take -/
theorem ctake_any (h : Parts w G B d da dl Dl dr c) {p : Int} {f : Nat} {q : List Nat} (hc : c.a.can p = true) (hq : c.a.Q = f :: q) : Calls Try.prog 26 #[.pointer (some ⟨d, 0, none⟩), .int .i64 p] w (PPost G B d da dl Dl dr w (.int .i64 (f : Int)) (c.takeF p f)) := by
  have hg := h.ar.good
  obtain ⟨hf, _, _, _⟩ := hg.head hq
  have hn := hg.n
  have hfz : (f : Int) < 32 := by omega
  have e1 : c.a.takeC p = (f : Int) := by unfold Ar.takeC; rw [if_pos hc, hq]; rfl
  have HT := Lib.hid (h.arena fun E hE => ArT.take_any hE p)
  rw [e1] at HT
  have c0 := h.c0
  clear h hg hc hq e1 hn
  go_enter Try.func26, Try.ntmps26
  go_upto_region 2 with (go_at_call 38; (with_reducible refine HT.out.mono ?_); rintro e w1 ⟨rfl, hp, hk⟩; have H1 := Lib.hid hp; have HK1 := Lib.hid hk; clear hp hk)
  clear c0
  have c0 := H1.out.c0
  have HP := Lib.hid (H1.out.arena fun E hE => ArD.pin_any hE (f : Int))
  go_upto_region 3 with (go_at_call 22; (with_reducible refine HP.out.mono ?_); rintro e w2 ⟨rfl, hp, hk⟩; have H2 := Lib.hid hp; have HK2 := Lib.hid hk; clear hp hk)
  clear c0
  have c1 := H2.out.c1
  have HF := Lib.hid (ListC.front_any H2.out.li (f : Int))
  go_upto_region 4 with (go_at_call 35; (with_reducible refine HF.out.mono ?_); rintro e w3 ⟨rfl, hl, hk, _⟩; have H3 := Lib.hid (H2.out.lst hl hk); clear hl hk)
  clear c1
  have c2 := H3.out.1.cp (f := f) (by omega)
  have fz := H3.out.1.hd.frozen (3 + f)
  go_wp2
  go_ret
  have H4 := H3.out.1.pgs f p
  exact ⟨rfl, H4.1, KF.trans (KF.trans (KF.trans HK1.out HK2.out) H3.out.2) H4.2⟩

/-! ### Hit -/
theorem hit_nil (p : Int) : Calls Try.prog 10 #[.pointer none, .int .i64 p] w fun e w' => e = .returned (.int .i64 (-1)) ∧ w = w' := by
  go_enter Try.func10, Try.ntmps10
  go_wp2
  go_ret
  exact ⟨rfl, rfl⟩
set_option maxHeartbeats 1000000 in
theorem hit_parts (h : Parts w G B d da dl Dl dr c) (p : Int) : Calls Try.prog 10 #[.pointer (some ⟨d, 0, none⟩), .int .i64 p] w (CPost G B d w (.int .i64 (c.settle.hitC p)) (c.settle.hit p)) := by
  have HS := Lib.hid (settle_any h)
  clear h
  generalize hP : CPost G B d w (.int .i64 (c.settle.hitC p)) (c.settle.hit p) = P
  have HP := Lib.hid hP
  clear hP
  go_enter Try.func10, Try.ntmps10
  go_upto_region 4 with (go_at_call 21; (with_reducible refine HS.out.mono ?_); rintro e w1 ⟨rfl, hp, hk⟩; have H1 := Lib.hid hp; have HK1 := Lib.hid hk; clear hp hk)
  generalize hc1 : c.settle = c1 at *
  clear hc1 HS
  have c0 := H1.out.c0
  have HF := Lib.hid (ArD.find_any H1.out.ar p)
  have HPN := Lib.hid (H1.out.arena fun E hE => ArD.pin_any hE (c1.a.find p))
  by_cases hz : c1.a.pinC (c1.a.find p) = 0
  · have HQ : Hid (c1.hitC p = c1.a.find p ∧ c1.hit p = ⟨c1.a.pin (c1.a.find p), applyL 32 c1.L (toldBy c1.T (c1.a.find p)), waitBy c1.T (c1.a.find p), c1.P⟩) := by
      unfold Co.hitC Co.hit
      rw [if_pos hz, if_pos hz]
      exact ⟨rfl, rfl⟩
    rw [HQ.out.1, HQ.out.2] at HP
    rw [hz] at HPN
    clear HQ hz
    generalize c1.a.find p = f at *
    go_upto_region 7 with (first
      | (go_at_call 12; (with_reducible refine HF.out.mono ?_); rintro e w' ⟨rfl, rfl⟩)
      | (go_at_call 22; (with_reducible refine HPN.out.mono ?_); rintro e w2 ⟨rfl, hp, hk⟩; have H2 := Lib.hid hp; have HK2 := Lib.hid hk; clear hp hk))
    clear c0
    have H3 := Lib.hid (H2.out.grow (Kept.drew' w2))
    have c1' := H2.out.c1
    have c2 := H2.out.c2
    have hlt := H2.out.lt
    have HLT := Lib.hid hlt
    have HT := Lib.hid (RingT.gtouch_any H3.out.ri f H3.out.tl)
    have hn1 : ¬ (RingC.RF B dr w2.drew d ∨ Rowed.Own dl Dl d) := by
      have hh := H2.out
      rintro (x | x | x)
      · rcases x with x | x
        · exact hh.nr x
        · exact (isCells_row hh.hd).notChan x.2
      · exact hh.nl x
      · exact hh.nD x
    have q1 := up_cell (F := fun k => RingC.RF B dr w2.drew k ∨ Rowed.Own dl Dl k) (w := w2.drew) (p := ⟨d, 1, none⟩) c1' hn1
    have q2 := up_cell (F := fun k => RingC.RF B dr w2.drew k ∨ Rowed.Own dl Dl k) (w := w2.drew) (p := ⟨d, 2, none⟩) c2 hn1
    clear hn1 hlt
    refine wp_region_stages (Kept fun k => RingC.RF B dr w2.drew k ∨ Rowed.Own dl Dl k) (kept_refl _) (kept_trans _) [([0, 1, 2, 3, 4, 5, 6, 7, 8], 9), ([], 10)] [] (by kernel_rfl) (by kernel_rfl) ?_
    simp only [selSt, sel, List.map_cons, List.map_nil, List.getD_cons_succ, List.getD_cons_zero]
    refine st_cons fun K1 hK1 => ?_
    repeat (go_big_quiet_step (fail))
    refine wpQuiet_nil ?_
    clear q1 q2
    go_wp2_with (go_at_call 24; (with_reducible refine HT.out.mono ?_); rintro e w4 ⟨A, cp, rfl, hs, hn, hr, hk⟩; have HSL := Lib.hid hs; have HN := Lib.hid hn; have HKR := Lib.hid hk; have H4 := Lib.hid (H3.out.rng hr hk (wait_len H3.out.tl f)); clear hs hn hr hk)
    refine norm_up (hK1 _ _ (HKR.out.mono fun k _ x => .inl x) (st_cons fun K2 hK2 => ?_))
    clear hK1 K1
    refine wpQuiet_nil ?_
    have HAP := Lib.hid (RingA.gapply_any H4.out.1.li cp HSL.out (fun _ x e y => by
      have h1 : w2.drew.heap.size ≤ x.block := HN.out x e
      have h2 := HLT.out
      change w2.heap.size ≤ x.block at h1
      rcases y with y | y <;> omega) (by
        show (toldBy _ f).length ≤ 100000
        have : c1.T.length ≤ 7 := H2.out.tl
        unfold toldBy
        split
        · simp only [List.length_append, List.length_cons, List.length_nil]; omega
        · exact Nat.zero_le _))
    go_wp2_with (go_at_call 23; (with_reducible refine HAP.out.mono ?_); rintro e w5 ⟨rfl, hl, hk⟩; have HKL := Lib.hid hk; have H5 := Lib.hid (H4.out.1.lst hl hk); clear hl hk)
    refine norm_up (hK2 _ _ (HKL.out.mono fun k _ x => .inr x) (st_nil fun K3 hK3 => wpQuiet_nil (hK3 _ ?_)))
    clear hK2 hK3 K2 K3
    go_wp2
    rw [← HP.out]
    exact ⟨rfl, ⟨_, _, _, _, H5.out.1⟩, CF.trans (CF.trans (KF.cf (KF.trans HK1.out HK2.out.drew)) H4.out.2) (KF.cf H5.out.2)⟩
  · have HQ : Hid (c1.hitC p = -1 ∧ c1.hit p = c1) := by
      unfold Co.hitC Co.hit
      rw [if_neg hz, if_neg hz]
      exact ⟨rfl, rfl⟩
    have HST : Hid (c1.a.pin (c1.a.find p) = c1.a) := by
      show _ = _
      unfold Ar.pin
      rw [if_neg hz]
    rw [HQ.out.1, HQ.out.2] at HP
    rw [HST.out] at HPN
    have hz' : (c1.a.pinC (c1.a.find p) == 0) = false := by rw [beq_eq_false_iff_ne]; exact hz
    clear HQ hz HST
    generalize c1.a.pinC (c1.a.find p) = u at *
    generalize c1.a.find p = f at *
    go_wp2_with (first
      | (go_at_call 12; (with_reducible refine HF.out.mono ?_); rintro e w' ⟨rfl, rfl⟩)
      | (go_at_call 22; (with_reducible refine HPN.out.mono ?_); rintro e w2 ⟨rfl, hp, hk⟩; have H2 := Lib.hid hp; have HK2 := Lib.hid hk; clear hp hk))
    rw [← HP.out]
    exact ⟨rfl, ⟨_, _, _, _, H2.out⟩, KF.cf (KF.trans HK1.out HK2.out)⟩
theorem hit_any (h : CoAt w G B d c) (p : Int) : Calls Try.prog 10 #[.pointer (some ⟨d, 0, none⟩), .int .i64 p] w (CPost G B d w (.int .i64 (c.settle.hitC p)) (c.settle.hit p)) := by
  obtain ⟨da, dl, Dl, dr, h⟩ := h
  exact hit_parts h p

/-! ### Let, Order -/
theorem let_any (h : CoAt w G B d c) (f : Int) : Calls Try.prog 13 #[.pointer (some ⟨d, 0, none⟩), .int .i64 f] w (CPost G B d w (.int .i64 (c.a.unpinC f)) (c.unpin f)) := by
  obtain ⟨da, dl, Dl, dr, h⟩ := h
  have HU := Lib.hid (h.arena fun E hE => ArD.unpin_any hE f)
  have c0 := h.c0
  clear h
  go_enter Try.func13, Try.ntmps13
  go_wp2_with (go_at_call 30; (with_reducible refine HU.out.mono ?_); rintro e w2 ⟨rfl, hp, hk⟩; have H2 := Lib.hid hp; have HK2 := Lib.hid hk; clear hp hk)
  go_ret
  exact ⟨rfl, ⟨_, _, _, _, H2.out⟩, KF.cf HK2.out⟩
/-- What Order answers. -/
def OPost (G : Nat → Prop) (B d : Nat) (w : World) (c' : Co) (e : Ending) (w' : World) : Prop :=
  ∃ A cp, e = .returned (.slice A c'.L.length cp) ∧ Sl w' w'.heap.size .i64 A c'.L.length (ints c'.L) ∧ (∀ x, A = some x → w.heap.size ≤ x.block) ∧ CoAt w' G B d c' ∧ Kept (CF G B w) w w'
theorem order_any (h : CoAt w G B d c) : Calls Try.prog 16 #[.pointer (some ⟨d, 0, none⟩)] w (OPost G B d w c.settle) := by
  obtain ⟨da, dl, Dl, dr, h⟩ := h
  have HS := Lib.hid (settle_any h)
  clear h
  go_enter Try.func16, Try.ntmps16
  go_upto_region 4 with (go_at_call 21; (with_reducible refine HS.out.mono ?_); rintro e w1 ⟨rfl, hp, hk⟩; have H1 := Lib.hid hp; have HK1 := Lib.hid hk; clear hp hk)
  generalize hc1 : c.settle = c1 at *
  clear hc1 HS
  have c1' := H1.out.c1
  have HA := Lib.hid (ListD.all_any H1.out.li)
  go_wp2_with (go_at_call 32; (with_reducible refine HA.out.mono ?_); rintro e w2 ⟨A, cp, rfl, hs, hn, hg⟩; have HSL := Lib.hid hs; have HN := Lib.hid hn; have HG := Lib.hid hg; clear hs hn hg)
  go_ret
  exact ⟨A, cp, rfl, HSL.out, fun x e => Nat.le_trans HK1.out.size (HN.out x e), ⟨_, _, _, _, H1.out.grow HG.out⟩, CF.trans (KF.cf HK1.out) (CF.grow HG.out)⟩

/-! ### New -/
theorem new_bad (k : Int) (hk : ¬ (0 ≤ k ∧ k ≤ 32)) : Calls Try.prog 7 #[.int .i64 k] w fun e w' => e = .returned (.pointer none) ∧ w = w' := by
  have HN := Lib.hid (ArN.new_bad (w := w) k hk)
  clear hk
  go_enter Try.func7, Try.ntmps7
  go_wp2_with (go_at_call 17; (with_reducible refine HN.out.mono ?_); rintro e w' ⟨rfl, rfl⟩)
  go_ret
  exact ⟨rfl, rfl⟩
/-- What New makes. -/
def NPost (n : Nat) (w : World) (e : Ending) (w' : World) : Prop := ∃ d, e = .returned (.pointer (some ⟨d, 0, none⟩)) ∧ CoAt w' (w.heap.size ≤ ·) w.heap.size d (CoM.fresh n) ∧ Grow w w'
theorem new_good (n : Nat) (hn : n ≤ 32) : Calls Try.prog 7 #[.int .i64 (n : Int)] w (NPost n w) := by
  have HA := Lib.hid (ArN.new_good (w := w) n hn)
  clear hn
  go_enter Try.func7, Try.ntmps7
  go_upto_region 4 with (go_at_call 17; (with_reducible refine HA.out.mono ?_); rintro e w1 ⟨rfl, ha, hg⟩; have HA1 := Lib.hid ha; have HG1 := Lib.hid hg; clear ha hg)
  have HL := Lib.hid (ListD.new_good (w := w1) 32 (by omega))
  simp only [Int.cast_ofNat_Int] at HL
  go_wp2_with (first
    | (go_at_call 18; (with_reducible refine HL.out.mono ?_); rintro e w2 ⟨dl, Dl, rfl, hl, h1, h2, hg⟩; have HL2 := Lib.hid hl; have HB1 := Lib.hid (And.intro h1 h2); have HG2 := Lib.hid hg; clear hl h1 h2 hg)
    | (go_at_call 19; (with_reducible refine RingC.gnew_any.mono ?_); rintro e w3 ⟨rfl, hr, hg⟩; have HR3 := Lib.hid hr; have HG3 := Lib.hid hg; clear hr hg))
  go_ret
  have h3 : Grow w1 w3 := HG2.out.trans HG3.out
  have h4 : ∀ o, Grow w3 (w3.alloc o) := fun o => (Kept.refl _ _).alloc o
  have s1 := HG1.out.size
  have s2 := HG2.out.size
  have s3 := HG3.out.size
  have b1 := HB1.out.1
  have b2 := HB1.out.2
  have l1 := (ArAt.lt HA1.out).1
  have l2 := HL2.out.lt
  have hr := HR3.out w.heap.size (by omega)
  have key : ∀ cs : Array Value, cs = ((List.range 35).map (ccell w.heap.size dl w2.heap.size fun _ => 0)).toArray → cs.size = 35 ∧ ∀ i, i < 35 → cs[i]? = some (ccell w.heap.size dl w2.heap.size (fun _ => 0) i) := by
    rintro _ rfl
    exact ⟨by simp, fun i hi => by simp [hi]⟩
  refine ⟨w3.heap.size, rfl, ⟨w.heap.size, dl, Dl, w2.heap.size, ⟨⟨_, _, heap_alloc_new w3 _, ?_, (key _ rfl).2⟩, ?_, (HL2.out.grow HG3.out).grow (h4 _), hr.grow (h4 _), ?_, ?_, ?_, ?_, ?_, ⟨?_, ?_, ?_, ?_⟩, Nat.zero_le _⟩⟩, (HG1.out.trans h3).trans (h4 _)⟩
  · exact Nat.le_refl 35
  · refine ((HA1.out.mono (H := fun k => w.heap.size ≤ k ∧ k < w1.heap.size) fun k hk x => ⟨x, hk⟩).grow (h3.trans (h4 _))).mono fun k _ x => ⟨x.1, ?_, ?_, ?_, ?_⟩
    · have := x.2; omega
    · have := x.2; omega
    · have := x.2; omega
    · have := x.2; omega
  · omega
  · omega
  · have := hr.lt; omega
  · omega
  · omega
  · show w.heap.size ≤ w3.heap.size; omega
  · show w.heap.size ≤ dl; omega
  · show w.heap.size ≤ Dl; omega
  · show w.heap.size ≤ w2.heap.size; omega
end
end Go.Proofs.Ytcmhkknoffeebaa.CoO
