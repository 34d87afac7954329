/-
  Package give (chapter 17): Idle, at every slice of frames and one to four shards.
-/
import Derived.Test.YtnecmjanmkmjpaaGvIdle
import Derived.Deep.DeepCutAuto
namespace Go.Proofs.Ytnecmjanmkmjpaa.GvN
open Go.ChangeShapes Go.WideShapes Go.ChangeAt Go.RowKit
open Go.Proofs.Ytnecmjanmkmjpaa.Mem Go.Proofs.Ytnecmjanmkmjpaa.Blk Go.Proofs.Ytnecmjanmkmjpaa.Cells Go.Proofs.Ytnecmjanmkmjpaa.GsC Go.Proofs.Ytnecmjanmkmjpaa.GvM Go.Proofs.Ytnecmjanmkmjpaa.GvC Go.Proofs.Ytnecmjanmkmjpaa.GvI Go.Proofs.Ytnecmjanmkmjpaa.Stages Go.Proofs.Ytnecmjanmkmjpaa.Trees

theorem madeI (w : World) (n : Nat) (hn : n ≤ 1024) : (Instr.makeSlice 22 (.int .i64 (n : Int)) (.int .i64 (n : Int))).run Try.prog w = .ok (.slice (some ⟨w.heap.size, 0, none⟩) n n) (w.alloc (.cells (madeCells #[.int .i64 0] n) 3)) := by
  obtain ⟨i, hi, hz, hs, hb⟩ := info_parts infoI
  have := run_make (P := Try.prog) w 22 3 i _ Try.underlying22 hi hz .i64 .i64 (n : Int) (n : Int) (by omega) (Int.le_refl _) (by rw [hb]; omega) (by omega)
  rw [hs, Int.toNat_natCast, Nat.mul_one] at this
  exact this
/-- The block of one shard's number each. -/
def Nr (w : World) (b m : Nat) (H : Nat → Nat) : Prop := Row w b m fun s => .int .i64 (H s : Int)
section
variable {w w' : World} {A : Option Addr} {n m c b d : Nat} {f : Nat → Fm} {H K : Nat → Nat}
theorem nr_made (w : World) (m : Nat) : Nr (w.alloc (.cells (madeCells #[.int .i64 0] m) 3)) w.heap.size m fun _ => 0 :=
  Row.of_blk (NBlk.made w 3 .i64 m) (by simp) fun i hi => by simp [hi]
theorem Nr.has (h : Nr w b m H) : Has w (some ⟨b, 0, none⟩) m (fun s => (H s : Int)) := fun _ => ⟨b, 0, rfl, fun j hj => by rw [Nat.zero_add]; exact Row.cell h hj⟩
theorem Nr.set (h : Nr w b m H) {s : Nat} (hs : ∀ q, q < m → q ≠ s → K q = H q) (hk : K s = H s + 1) : Nr (w.setCell ⟨b, s, none⟩ (.int .i64 ((H s : Int) + 1))) b m K :=
  (Row.set h s _).congr fun i hi => by
    by_cases e : i = s
    · subst e; rw [if_pos rfl, hk]; rfl
    · rw [if_neg e, hs i hi e]
theorem Nr.other (h : Nr w b m H) (hb : b ≠ d) (s : Nat) (v : Value) : Nr (w.setCell ⟨d, s, none⟩ v) b m H := Row.other h (p := ⟨d, s, none⟩) hb v
theorem Nr.kept (h : Nr w b m H) (hg : Grow w w') : Nr w' b m H := Row.kept h hg id
theorem Nr.same (h : Nr w b m H) (e : ∀ s, s < m → K s = H s) : Nr w b m K := Row.congr h fun i hi => by
  show Value.int .i64 (H i : Int) = Value.int .i64 (K i : Int)
  rw [e i hi]
/-- What Idle makes. -/
def CtPost (n m : Nat) (f : Nat → Fm) (w : World) (e : Ending) (w' : World) : Prop := ∃ b d, e = .returned (.tuple #[.slice (some ⟨b, 0, none⟩) m m, .slice (some ⟨d, 0, none⟩) m m]) ∧ Nr w' b m (fun s => cnt Fm.free f s n) ∧ Nr w' d m (fun s => cnt Fm.idle f s n) ∧ Grow w w'
set_option maxHeartbeats 2000000 in
theorem count_any (h : Fr w A n f) (hn : n ≤ 1000) (m1 : 1 ≤ m) (m4 : m ≤ 4) : Calls Try.prog 7 #[.slice A n c, .int .i64 (m : Int)] w (CtPost n m f w) := by
  have H := Lib.hid h
  have HN := Lib.hid hn
  have M4 := Lib.hid m4
  have h1z : 1 ≤ (m : Int) := by omega
  have h4z : (m : Int) ≤ 4 := by omega
  have hnz : (n : Int) ≤ 1000 := by omega
  have CM := Lib.hid fun (w : World) => mayBe_good (w := w) h1z h4z
  have CF := Lib.hid fun (w : World) (x : Fm) => isFree_any (w := w) x
  have CI := Lib.hid fun (w : World) (x : Fm) => isIdle_any (w := w) x
  have km : ∀ w : World, (Instr.makeSlice 22 (.int .i64 (m : Int)) (.int .i64 (m : Int))).run Try.prog w = .ok (.slice (some ⟨w.heap.size, 0, none⟩) m m) (w.alloc (.cells (madeCells #[.int .i64 0] m) 3)) := fun w => madeI w m (by omega)
  clear h hn m1 m4
  go_enter Try.func7, Try.ntmps7
  go_wp2
  go_step3
  go_wp2_with (go_at_call 11; (with_reducible refine (CM.out _).mono ?_); rintro e w' ⟨rfl, rfl⟩)
  go_cut [6, 7] (fun s6 s7 wx => ∃ b d, s6 = .slice (some ⟨b, 0, none⟩) m m ∧ s7 = .slice (some ⟨d, 0, none⟩) m m ∧ Nr wx b m (fun _ => 0) ∧ Nr wx d m (fun _ => 0) ∧ w.heap.size ≤ b ∧ w.heap.size ≤ d ∧ b ≠ d ∧ Grow w wx)
  case first =>
    refine wp_region_tree Grow Grow (kept_refl _) (kept_trans _) (kept_refl _) (kept_trans _) (fun _ _ h => h) [] (.two true [0, 2] 1 (.one true [4] 3 (.last true [5])) 3 (.one true [] 1 (.last true [4, 5]))) (by kernel_rfl) (by kernel_rfl) ?_
    refine tr_twoE fun K1 hK1 K2 hK2 => ?_
    simp only [sel, List.map_cons, List.map_nil, List.getD_cons_succ, List.getD_cons_zero]
    repeat (go_big_quiet_step (fail))
    refine wpQuiet_nil ?_
    have HG0 : Hid (Grow w (w.alloc (.cells (madeCells #[.int .i64 0] m) 3)).drew) := ((Kept.refl _ w).alloc _).drew
    have HR0 : Hid (Nr (w.alloc (.cells (madeCells #[.int .i64 0] m) 3)).drew w.heap.size m fun _ => 0) := nr_made w m
    obtain ⟨B, hB⟩ : ∃ B, w.heap.size = B := ⟨_, rfl⟩
    have HL0 := Lib.hid hB
    rw [hB] at HR0
    refine ⟨?_, ?_⟩
    · go_wp2
      refine norm_up (hK1 _ _ (Lr_early (by decide) (show Grow w.drew (w.alloc (.cells (madeCells #[.int .i64 0] m) 3)).drew from (Kept.refl _ w.drew).alloc (.cells (madeCells #[.int .i64 0] m) 3))) ?_)
      clear hK1 hK2 K1 K2
      generalize (w.alloc (.cells (madeCells #[.int .i64 0] m) 3)).drew = u1 at HG0 HR0 ⊢
      refine tr_oneE fun K hK => ?_
      simp only [sel, List.map_cons, List.map_nil, List.getD_cons_succ, List.getD_cons_zero]
      repeat (go_big_quiet_step (fail))
      refine wpQuiet_nil ?_
      go_wp2
      refine norm_up (hK _ _ (Lr_early (by decide) ((Kept.refl _ _).alloc _)) ?_)
      clear hK K
      have HG1 : Hid (Grow u1 (u1.alloc (.cells (madeCells #[.int .i64 0] m) 3))) := (Kept.refl _ u1).alloc _
      have HR1 : Hid (Nr (u1.alloc (.cells (madeCells #[.int .i64 0] m) 3)) u1.heap.size m fun _ => 0) := nr_made u1 m
      generalize u1.alloc (.cells (madeCells #[.int .i64 0] m) 3) = u2 at HG1 HR1 ⊢
      refine tr_last fun K hK => ?_
      simp only [sel, List.map_cons, List.map_nil, List.getD_cons_succ, List.getD_cons_zero]
      repeat (go_big_quiet_step (fail))
      refine wpQuiet_nil (hK _ ?_)
      clear hK K
      have hlt := HR0.out.lt
      have hsz := HG0.out.size
      go_wp2
      go_meet
      exact ⟨_, _, rfl, rfl, Row.kept HR0.out HG1.out id, HR1.out, Nat.le_of_eq HL0.out, by have := HL0.out; omega, Nat.ne_of_lt hlt, HG0.out.trans HG1.out⟩
    · go_wp2
      refine norm_up (hK2 _ _ (Lr_early (by decide) (show Grow w.drew (w.alloc (.cells (madeCells #[.int .i64 0] m) 3)).drew from (Kept.refl _ w.drew).alloc (.cells (madeCells #[.int .i64 0] m) 3))) ?_)
      clear hK1 hK2 K1 K2
      generalize (w.alloc (.cells (madeCells #[.int .i64 0] m) 3)).drew = u1 at HG0 HR0 ⊢
      refine tr_oneE fun K hK => ?_
      simp only [sel, List.map_cons, List.map_nil, List.getD_cons_succ, List.getD_cons_zero]
      repeat (go_big_quiet_step (fail))
      refine wpQuiet_nil ?_
      go_wp2
      refine norm_up (hK _ _ (Lr_early (by decide) ((Kept.refl _ _).alloc _)) ?_)
      clear hK K
      have HG1 : Hid (Grow u1 (u1.alloc (.cells (madeCells #[.int .i64 0] m) 3))) := (Kept.refl _ u1).alloc _
      have HR1 : Hid (Nr (u1.alloc (.cells (madeCells #[.int .i64 0] m) 3)) u1.heap.size m fun _ => 0) := nr_made u1 m
      generalize u1.alloc (.cells (madeCells #[.int .i64 0] m) 3) = u2 at HG1 HR1 ⊢
      refine tr_last fun K hK => ?_
      simp only [sel, List.map_cons, List.map_nil, List.getD_cons_succ, List.getD_cons_zero]
      repeat (go_big_quiet_step (fail))
      refine wpQuiet_nil (hK _ ?_)
      clear hK K
      have hlt := HR0.out.lt
      have hsz := HG0.out.size
      go_wp2
      go_meet
      exact ⟨_, _, rfl, rfl, HR1.out, Row.kept HR0.out HG1.out id, by have := HL0.out; omega, Nat.le_of_eq HL0.out, Nat.ne_of_gt hlt, HG0.out.trans HG1.out⟩
  case rest =>
    obtain ⟨b, d, rfl, rfl, hb, hd, hwb, hwd, hne, hgr⟩ := hcut
    have HB0 := Lib.hid hb
    have HD0 := Lib.hid hd
    have HG0 := Lib.hid hgr
    have HNE := Lib.hid (And.intro hwb (And.intro hwd hne))
    clear hb hd hgr hwb hwd hne km
    go_wp2
    go_step3
    go_wp2
    go_loopg [19] n (fun gx i wr => ∃ j : Nat, j + gx = n ∧ i = .int .i64 (j : Int) ∧ Nr wr b m (fun s => cnt Fm.free f s j) ∧ Nr wr d m (fun s => cnt Fm.idle f s j) ∧ Grow w wr)
    case atStart => exact ⟨0, by omega, rfl, HB0.out, HD0.out, HG0.out⟩
    case round =>
      obtain ⟨j, hg, rfl, hb, hd, hgr⟩ := hrel
      have HG := Lib.hid hg
      have HB := Lib.hid hb
      have HD := Lib.hid hd
      have HGR := Lib.hid hgr
      clear hg hb hd hgr HB0 HD0 HG0
      by_cases hj : j < n
      · have hjz : (j : Int) < (n : Int) := by omega
        obtain ⟨b5, o5, rfl, hc⟩ := (H.out.grow HGR.out) (by omega)
        obtain ⟨r0, r1, r2, r3, r4⟩ := hc j hj
        obtain ⟨x, hx⟩ : ∃ x, f j = x := ⟨_, rfl⟩
        rw [hx] at r0 r1 r2 r3 r4
        have HTx := Lib.hid fun (w : World) => CF.out w x
        have HTi := Lib.hid fun (w : World) => CI.out w x
        have HCF := Lib.hid fun (s : Nat) => And.intro (fun (h : x.sh = (s : Int)) (hp : x.free = true) => cnt_in (p := Fm.free) (f := f) (s := s) (j := j) (by rw [hx]; exact h) (by rw [hx]; exact hp)) (fun (h : ¬ (x.sh = (s : Int) ∧ x.free = true)) => cnt_out (p := Fm.free) (f := f) (s := s) (j := j) (by rw [hx]; exact h))
        have HCI := Lib.hid fun (s : Nat) => And.intro (fun (h : x.sh = (s : Int)) (hp : x.idle = true) => cnt_in (p := Fm.idle) (f := f) (s := s) (j := j) (by rw [hx]; exact h) (by rw [hx]; exact hp)) (fun (h : ¬ (x.sh = (s : Int) ∧ x.idle = true)) => cnt_out (p := Fm.idle) (f := f) (s := s) (j := j) (by rw [hx]; exact h))
        have HXC : Hid (x.free = true → x.idle = false) := fun h => by
          unfold Fm.free at h
          unfold Fm.idle
          rw [beq_iff_eq] at h
          rw [h]; rfl
        clear hc hx
        obtain ⟨st, pg, pins, sh, dt⟩ := x
        dsimp only at r0 r1 r2 r3 r4
        unfold Fm.val at HTx HTi
        dsimp only at HTx HTi HCF HCI
        generalize (Fm.mk st pg pins sh dt).free = vf at *
        generalize (Fm.mk st pg pins sh dt).idle = vi at *
        go_upto_region 7 with (fail)
        have hbx := Blk.new wr 28 [.int .i64 st, .int .i64 pg, .int .i64 pins, .int .i64 sh, .bool dt]
        have q0 := hbx.cell 0
        have q1 := hbx.cell 1
        have q2 := hbx.cell 2
        have q3 := hbx.cell 3
        have q4 := hbx.cell 4
        simp only [List.getElem?_cons_zero, List.getElem?_cons_succ] at q0 q1 q2 q3 q4
        have HG1 : Hid (Grow wr (wr.alloc (.cells #[.int .i64 st, .int .i64 pg, .int .i64 pins, .int .i64 sh, .bool dt] 28))) := (Kept.refl _ wr).alloc _
        clear hbx r0 r1 r2 r3 r4
        generalize wr.alloc (.cells #[.int .i64 st, .int .i64 pg, .int .i64 pins, .int .i64 sh, .bool dt] 28) = w1 at q0 q1 q2 q3 q4 HG1 ⊢
        generalize wr.heap.size = g at q0 q1 q2 q3 q4 ⊢
        have HB1 := Lib.hid (Nr.kept HB.out HG1.out)
        have HD1 := Lib.hid (Nr.kept HD.out HG1.out)
        have HGR1 := Lib.hid (HGR.out.trans HG1.out)
        clear HB HD HGR HG1
        by_cases hs : 0 ≤ sh ∧ sh < (m : Int)
        · obtain ⟨hs0, hs1⟩ := hs
          obtain ⟨q, rfl⟩ : ∃ q : Nat, sh = (q : Int) := ⟨sh.toNat, by omega⟩
          have HQM : Hid (q < m) := by show q < m; omega
          cases vf with
          | true =>
            obtain rfl := HXC.out rfl
            have HSI : Hid (∀ s, s < m → cnt Fm.idle f s (j + 1) = cnt Fm.idle f s j) := fun s hs' => (HCI.out s).2 fun h => by cases h.2
            obtain ⟨y, hy⟩ : ∃ y, cnt Fm.free f q j = y := ⟨_, rfl⟩
            have HY := Lib.hid hy
            have hyb : (y : Int) ≤ 1000 := by have := cnt_le (p := Fm.free) (f := f) (s := q) (j := j); omega
            have HSET : Hid (∀ wx, Nr wx b m (fun s => cnt Fm.free f s j) → Nr (wx.setCell ⟨b, q, none⟩ (.int .i64 ((y : Int) + 1))) b m (fun s => cnt Fm.free f s (j + 1))) := fun wx h => by
              have := Nr.set (K := fun s => cnt Fm.free f s (j + 1)) (s := q) h (fun k hk hne => (HCF.out k).2 fun e => hne (by omega)) ((HCF.out q).1 rfl rfl)
              rw [show cnt Fm.free f q j = y from hy] at this
              exact this
            clear hy
            clear HTi
            go_wp2_with (go_at_call 12; (with_reducible refine (HTx.out _).mono ?_); rintro e w2 ⟨rfl, hgw⟩; have HB2 := Lib.hid (HB1.out.kept hgw); have HD2 := Lib.hid (HD1.out.kept hgw); have HGR2 := Lib.hid (HGR1.out.trans hgw); have p0 := hgw.cellN q0 id; have p1 := hgw.cellN q1 id; have p2 := hgw.cellN q2 id; have p3 := hgw.cellN q3 id; have p4 := hgw.cellN q4 id; clear q0 q1 q2 q3 q4 hgw; have c0 : w2.cell? ⟨b, q, none⟩ = some (.int .i64 (y : Int)) := (by rw [← HY.out]; exact Row.cell HB2.out HQM.out); have f0 := Row.frozen HB2.out q)
            go_roundg (gk - 1)
            case measure => have := HG.out; omega
            case rel => exact ⟨j + 1, by have := HG.out; omega, by go_num, HSET.out _ HB2.out, (HD2.out.other HNE.out.2.2.symm _ _).same HSI.out, HGR2.out.setCell (fun h => by have h : b < w.heap.size := h; have := HNE.out.1; omega) _⟩
          | false =>
            have HSF : Hid (∀ s, s < m → cnt Fm.free f s (j + 1) = cnt Fm.free f s j) := fun s hs' => (HCF.out s).2 fun h => by cases h.2
            cases vi with
            | true =>
              obtain ⟨y, hy⟩ : ∃ y, cnt Fm.idle f q j = y := ⟨_, rfl⟩
              have HY := Lib.hid hy
              have hyb : (y : Int) ≤ 1000 := by have := cnt_le (p := Fm.idle) (f := f) (s := q) (j := j); omega
              have HSET : Hid (∀ wx, Nr wx d m (fun s => cnt Fm.idle f s j) → Nr (wx.setCell ⟨d, q, none⟩ (.int .i64 ((y : Int) + 1))) d m (fun s => cnt Fm.idle f s (j + 1))) := fun wx h => by
                have := Nr.set (K := fun s => cnt Fm.idle f s (j + 1)) (s := q) h (fun k hk hne => (HCI.out k).2 fun e => hne (by omega)) ((HCI.out q).1 rfl rfl)
                rw [show cnt Fm.idle f q j = y from hy] at this
                exact this
              clear hy
              go_wp2_with (first
                | (go_at_call 12; (with_reducible refine (HTx.out _).mono ?_); rintro e w2 ⟨rfl, hgw⟩; have HB2 := Lib.hid (HB1.out.kept hgw); have HD2 := Lib.hid (HD1.out.kept hgw); have HGR2 := Lib.hid (HGR1.out.trans hgw); have p0 := hgw.cellN q0 id; have p1 := hgw.cellN q1 id; have p2 := hgw.cellN q2 id; have p3 := hgw.cellN q3 id; have p4 := hgw.cellN q4 id; clear q0 q1 q2 q3 q4 hgw)
                | (go_at_call 13; (with_reducible refine (HTi.out _).mono ?_); rintro e w3 ⟨rfl, hgw⟩; have HB3 := Lib.hid (HB2.out.kept hgw); have HD3 := Lib.hid (HD2.out.kept hgw); have HGR3 := Lib.hid (HGR2.out.trans hgw); have q3 := hgw.cellN p3 id; clear p0 p1 p2 p3 p4 hgw; have c0 : w3.cell? ⟨d, q, none⟩ = some (.int .i64 (y : Int)) := (by rw [← HY.out]; exact Row.cell HD3.out HQM.out); have f0 := Row.frozen HD3.out q))
              go_roundg (gk - 1)
              case measure => have := HG.out; omega
              case rel => exact ⟨j + 1, by have := HG.out; omega, by go_num, (HB3.out.other HNE.out.2.2 _ _).same HSF.out, HSET.out _ HD3.out, HGR3.out.setCell (fun h => by have h : d < w.heap.size := h; have := HNE.out.2.1; omega) _⟩
            | false =>
              have HSI : Hid (∀ s, s < m → cnt Fm.idle f s (j + 1) = cnt Fm.idle f s j) := fun s hs' => (HCI.out s).2 fun h => by cases h.2
              go_wp2_with (first
                | (go_at_call 12; (with_reducible refine (HTx.out _).mono ?_); rintro e w2 ⟨rfl, hgw⟩; have HB2 := Lib.hid (HB1.out.kept hgw); have HD2 := Lib.hid (HD1.out.kept hgw); have HGR2 := Lib.hid (HGR1.out.trans hgw); have p0 := hgw.cellN q0 id; have p1 := hgw.cellN q1 id; have p2 := hgw.cellN q2 id; have p3 := hgw.cellN q3 id; have p4 := hgw.cellN q4 id; clear q0 q1 q2 q3 q4 hgw)
                | (go_at_call 13; (with_reducible refine (HTi.out _).mono ?_); rintro e w3 ⟨rfl, hgw⟩; have HB3 := Lib.hid (HB2.out.kept hgw); have HD3 := Lib.hid (HD2.out.kept hgw); have HGR3 := Lib.hid (HGR2.out.trans hgw); have q3 := hgw.cellN p3 id; clear p0 p1 p2 p3 p4 hgw))
              go_roundg (gk - 1)
              case measure => have := HG.out; omega
              case rel => exact ⟨j + 1, by have := HG.out; omega, by go_num, HB3.out.same HSF.out, HD3.out.same HSI.out, HGR3.out⟩
        · have HSF : Hid (∀ s, s < m → cnt Fm.free f s (j + 1) = cnt Fm.free f s j) := fun s hs' => (HCF.out s).2 fun h => by have := h.1; omega
          have HSI : Hid (∀ s, s < m → cnt Fm.idle f s (j + 1) = cnt Fm.idle f s j) := fun s hs' => (HCI.out s).2 fun h => by have := h.1; omega
          have HB2 : Hid (Nr w1 b m fun s => cnt Fm.free f s (j + 1)) := HB1.out.same HSF.out
          have HD2 : Hid (Nr w1 d m fun s => cnt Fm.idle f s (j + 1)) := HD1.out.same HSI.out
          clear HSF HSI HCF HCI
          by_cases hs0 : sh < 0
          · clear hs
            go_wp2
            go_roundg (gk - 1)
            case measure => have := HG.out; omega
            case rel => exact ⟨j + 1, by have := HG.out; omega, by go_num, HB2.out, HD2.out, HGR1.out⟩
          · have hs1 : (m : Int) ≤ sh := by omega
            have hs2 : 0 ≤ sh := by omega
            clear hs hs0
            go_wp2
            go_roundg (gk - 1)
            case measure => have := HG.out; omega
            case rel => exact ⟨j + 1, by have := HG.out; omega, by go_num, HB2.out, HD2.out, HGR1.out⟩
      · obtain rfl : j = n := by have := HG.out; omega
        go_wp2
        try rw [Exit.noGoto_ret]
        go_ret2
        exact ⟨b, d, rfl, HB.out, HD.out, HGR.out⟩
end
end Go.Proofs.Ytnecmjanmkmjpaa.GvN
