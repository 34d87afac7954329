/-
  The document's New.
-/
import Derived.Test.YtjdlpknflhgkfaaMdMk
import Derived.Test.YtjdlpknflhgkfaaPmOwn
namespace Go.Proofs.Ytjdlpknflhgkfaa.MdN
open Go.ChangeShapes Go.WideShapes Go.ChangeAt Go.RowKit
open Go.Proofs.Ytjdlpknflhgkfaa.Mem Go.Proofs.Ytjdlpknflhgkfaa.Blk Go.Proofs.Ytjdlpknflhgkfaa.Cells Go.Proofs.Ytjdlpknflhgkfaa.Orow Go.Proofs.Ytjdlpknflhgkfaa.GrC Go.Proofs.Ytjdlpknflhgkfaa.MdM Go.Proofs.Ytjdlpknflhgkfaa.MdC Go.Proofs.Ytjdlpknflhgkfaa.MdR Go.Proofs.Ytjdlpknflhgkfaa.MdK Go.Proofs.Ytjdlpknflhgkfaa.Stages Go.Proofs.Ytjdlpknflhgkfaa.Trees

theorem s_size : (Try.prog.info? 44).map (·.size) = some 3 := by kernel_rfl
theorem load_S {w : World} {g : Nat} {t : TypeId} {x y z : Value} (hg : Blk w g t [x, y, z]) : (loadVar 44 ⟨g, 0, none⟩).run Try.prog w = .ok (.agg #[x, y, z]) w :=
  run_loadVar_row w g t 44 #[x, y, z] (0, 0) _ hg Try.underlying44 rfl s_size
theorem ret_S {w : World} {fn : Func} {R : Ending → World → Prop} {act : Act} {p g : Nat} {t : TypeId} {x y z : Value} (h : fn.results = #[.cell p 44]) (hp : act.tmps.getD p undef = .pointer (some ⟨g, 0, none⟩)) (hg : Blk w g t [x, y, z]) (hd : act.defers = []) (hR : R (.returned (.agg #[x, y, z])) w) : bodyPost Try.prog fn R .ret act w := by
  refine bodyPost_ret ?_ hd hR
  have hp' : act.tmps[p]?.getD undef = .pointer (some ⟨g, 0, none⟩) := by simpa using hp
  simp [results, h, hp', asAddr, load_S hg]
def RNewP (n N : Nat) (w : World) (e : Ending) (w' : World) : Prop := ∃ v, e = .returned v ∧ SAt w' (w.heap.size ≤ ·) v (fresh n N) ∧ Grow w w'
def RZeroP (w : World) (e : Ending) (w' : World) : Prop := e = .returned (.agg #[.slice none 0 0, .slice none 0 0, .slice none 0 0]) ∧ Grow w w'
theorem two_new (w : World) : Grow w ((w.alloc (.cells #[.slice none 0 0, .slice none 0 0, .slice none 0 0] 44)).alloc (.cells #[.slice none 0 0, .slice none 0 0, .slice none 0 0] 44)) ∧
    Blk ((w.alloc (.cells #[.slice none 0 0, .slice none 0 0, .slice none 0 0] 44)).alloc (.cells #[.slice none 0 0, .slice none 0 0, .slice none 0 0] 44)) w.heap.size 44 [.slice none 0 0, .slice none 0 0, .slice none 0 0] ∧
    Blk ((w.alloc (.cells #[.slice none 0 0, .slice none 0 0, .slice none 0 0] 44)).alloc (.cells #[.slice none 0 0, .slice none 0 0, .slice none 0 0] 44)) (w.heap.size + 1) 44 [.slice none 0 0, .slice none 0 0, .slice none 0 0] := by
  have g1 : Grow w (w.alloc (.cells #[.slice none 0 0, .slice none 0 0, .slice none 0 0] 44)) := (Kept.refl _ _).alloc _
  have b1 := Blk.new w 44 [.slice none 0 0, .slice none 0 0, .slice none 0 0]
  have z1 : (w.alloc (.cells #[.slice none 0 0, .slice none 0 0, .slice none 0 0] 44)).heap.size = w.heap.size + 1 := by simp
  generalize w.alloc (.cells #[.slice none 0 0, .slice none 0 0, .slice none 0 0] 44) = u at *
  have g2 : Grow u (u.alloc (.cells #[.slice none 0 0, .slice none 0 0, .slice none 0 0] 44)) := (Kept.refl _ _).alloc _
  have b2 := Blk.new u 44 [.slice none 0 0, .slice none 0 0, .slice none 0 0]
  rw [z1] at b2
  exact ⟨g1.trans g2, b1.grow g2, b2⟩
theorem rnew_bad (p c : Int) (w : World) (h : ¬ ((1 ≤ p ∧ p ≤ 48) ∧ 1 ≤ c ∧ c ≤ 6)) : Calls Try.prog 30 #[.int .i64 p, .int .i64 c] w (RZeroP w) := by
  obtain ⟨hg, hb, hd⟩ := two_new w
  have HG := Lib.hid hg
  have HB := Lib.hid hb
  have HD := Lib.hid hd
  have FIN : ∀ (a b c : Value), Blk ((w.alloc (.cells #[.slice none 0 0, .slice none 0 0, .slice none 0 0] 44)).alloc (.cells #[.slice none 0 0, .slice none 0 0, .slice none 0 0] 44)) w.heap.size 44 [.slice none 0 0, .slice none 0 0, .slice none 0 0] := fun _ _ _ => HB.out
  obtain ⟨P, hP⟩ : ∃ P, P = RZeroP w := ⟨_, rfl⟩
  have HP := Lib.hid hP
  rw [← hP]
  clear hg hb hd FIN hP
  by_cases h1 : p < 1
  · clear h
    go_enter Try.func30, Try.ntmps30
    go_upto_region 3 with (fail)
    generalize (w.alloc (.cells #[.slice none 0 0, .slice none 0 0, .slice none 0 0] 44)).alloc (.cells #[.slice none 0 0, .slice none 0 0, .slice none 0 0] 44) = w0 at HG HB HD ⊢
    have c0 := HD.out.cell 0
    have c1 := HD.out.cell 1
    have c2 := HD.out.cell 2
    have t0 := HB.out.cell 0
    have t1 := HB.out.cell 1
    have t2 := HB.out.cell 2
    have tf := HB.out.frozen
    simp only [List.getElem?_cons_zero, List.getElem?_cons_succ] at c0 c1 c2 t0 t1 t2
    go_wp2
    have hb5 := (((HB.out.set 0 (.slice none 0 0)).set 1 (.slice none 0 0)).set 2 (.slice none 0 0))
    rw [HP.out]
    exact ret_S rfl rfl hb5 rfl ⟨rfl, HG.out.then (((kept_set w0 w.heap.size 0 _).trans (kept_set _ w.heap.size 1 _)).trans (kept_set _ w.heap.size 2 _)) fun x hx e => by have e : x = w.heap.size := e; omega⟩
  · have h1' : 1 ≤ p := by omega
    by_cases h2 : 48 < p
    · clear h h1
      go_enter Try.func30, Try.ntmps30
      go_upto_region 3 with (fail)
      generalize (w.alloc (.cells #[.slice none 0 0, .slice none 0 0, .slice none 0 0] 44)).alloc (.cells #[.slice none 0 0, .slice none 0 0, .slice none 0 0] 44) = w0 at HG HB HD ⊢
      have c0 := HD.out.cell 0
      have c1 := HD.out.cell 1
      have c2 := HD.out.cell 2
      have t0 := HB.out.cell 0
      have t1 := HB.out.cell 1
      have t2 := HB.out.cell 2
      have tf := HB.out.frozen
      simp only [List.getElem?_cons_zero, List.getElem?_cons_succ] at c0 c1 c2 t0 t1 t2
      go_wp2
      have hb5 := (((HB.out.set 0 (.slice none 0 0)).set 1 (.slice none 0 0)).set 2 (.slice none 0 0))
      rw [HP.out]
      exact ret_S rfl rfl hb5 rfl ⟨rfl, HG.out.then (((kept_set w0 w.heap.size 0 _).trans (kept_set _ w.heap.size 1 _)).trans (kept_set _ w.heap.size 2 _)) fun x hx e => by have e : x = w.heap.size := e; omega⟩
    · have h2' : p ≤ 48 := by omega
      by_cases h3 : c < 1
      · clear h h1 h2
        go_enter Try.func30, Try.ntmps30
        go_upto_region 3 with (fail)
        generalize (w.alloc (.cells #[.slice none 0 0, .slice none 0 0, .slice none 0 0] 44)).alloc (.cells #[.slice none 0 0, .slice none 0 0, .slice none 0 0] 44) = w0 at HG HB HD ⊢
        have c0 := HD.out.cell 0
        have c1 := HD.out.cell 1
        have c2 := HD.out.cell 2
        have t0 := HB.out.cell 0
        have t1 := HB.out.cell 1
        have t2 := HB.out.cell 2
        have tf := HB.out.frozen
        simp only [List.getElem?_cons_zero, List.getElem?_cons_succ] at c0 c1 c2 t0 t1 t2
        go_wp2
        have hb5 := (((HB.out.set 0 (.slice none 0 0)).set 1 (.slice none 0 0)).set 2 (.slice none 0 0))
        rw [HP.out]
        exact ret_S rfl rfl hb5 rfl ⟨rfl, HG.out.then (((kept_set w0 w.heap.size 0 _).trans (kept_set _ w.heap.size 1 _)).trans (kept_set _ w.heap.size 2 _)) fun x hx e => by have e : x = w.heap.size := e; omega⟩
      · have h3' : 1 ≤ c := by omega
        have h4 : 6 < c := by omega
        clear h h1 h2 h3
        go_enter Try.func30, Try.ntmps30
        go_upto_region 3 with (fail)
        generalize (w.alloc (.cells #[.slice none 0 0, .slice none 0 0, .slice none 0 0] 44)).alloc (.cells #[.slice none 0 0, .slice none 0 0, .slice none 0 0] 44) = w0 at HG HB HD ⊢
        have c0 := HD.out.cell 0
        have c1 := HD.out.cell 1
        have c2 := HD.out.cell 2
        have t0 := HB.out.cell 0
        have t1 := HB.out.cell 1
        have t2 := HB.out.cell 2
        have tf := HB.out.frozen
        simp only [List.getElem?_cons_zero, List.getElem?_cons_succ] at c0 c1 c2 t0 t1 t2
        go_wp2
        have hb5 := (((HB.out.set 0 (.slice none 0 0)).set 1 (.slice none 0 0)).set 2 (.slice none 0 0))
        rw [HP.out]
        exact ret_S rfl rfl hb5 rfl ⟨rfl, HG.out.then (((kept_set w0 w.heap.size 0 _).trans (kept_set _ w.heap.size 1 _)).trans (kept_set _ w.heap.size 2 _)) fun x hx e => by have e : x = w.heap.size := e; omega⟩
section
variable {w : World}
def N1 (w0 : World) (d j : Nat) (wr : World) : Prop := ∃ vT vB, Mk1 wr d j (fun _ => false) (fun _ => zeros) vT vB ∧ Kept (d ≤ ·) w0 wr
def N2 (w0 : World) (d m2 n k : Nat) (wr : World) : Prop := ∃ vT vB vH q cp, Mk2 wr d m2 n k (fun _ => false) (fun _ => zeros) (fun _ _ => -1) vT vB vH q cp ∧ Kept (d ≤ ·) w0 wr ∧ m2 ≤ wr.heap.size
set_option maxHeartbeats 8000000 in
theorem rnew_any (n N : Nat) (h1 : 1 ≤ n) (h2 : n ≤ 48) (h3 : 1 ≤ N) (h4 : N ≤ 6) (w : World) : Calls Try.prog 30 #[.int .i64 (n : Int), .int .i64 (N : Int)] w (RNewP n N w) := by
  have hn1 : 1 ≤ (n : Int) := by omega
  have hn2 : (n : Int) ≤ 48 := by omega
  have hn3 : 1 ≤ (N : Int) := by omega
  have hn4 : (N : Int) ≤ 6 := by omega
  have HNn := Lib.hid (And.intro h1 h2)
  have HNN := Lib.hid (And.intro h3 h4)
  obtain ⟨hg, hb, hd⟩ := two_new w
  have HG0 := Lib.hid hg
  have HB0 := Lib.hid hb
  have HD0 := Lib.hid hd
  obtain ⟨P, hP⟩ : ∃ P, P = RNewP n N w := ⟨_, rfl⟩
  have HP := Lib.hid hP
  rw [← hP]
  clear h1 h2 h3 h4 hP hg hb hd
  go_enter Try.func30, Try.ntmps30
  go_upto_region 4 with (fail)
  generalize (w.alloc (.cells #[.slice none 0 0, .slice none 0 0, .slice none 0 0] 44)).alloc (.cells #[.slice none 0 0, .slice none 0 0, .slice none 0 0] 44) = w0 at HG0 HB0 HD0 ⊢
  obtain ⟨d, hdd⟩ : ∃ d, d = w.heap.size + 1 := ⟨_, rfl⟩
  rw [← hdd] at HD0 ⊢
  obtain ⟨B, hB⟩ : ∃ B, B = w.heap.size := ⟨_, rfl⟩
  rw [← hB] at HB0 hdd ⊢
  have HBD := Lib.hid (And.intro hB hdd)
  clear hB hdd
  go_wp2
  go_loopg [6] n (fun gx i wr => ∃ j : Nat, j + gx = n ∧ i = .int .i64 (j : Int) ∧ N1 w0 d j wr)
  case atStart => exact ⟨0, by omega, rfl, _, _, Mk1.nil HD0.out, Kept.refl _ _⟩
  case round =>
    obtain ⟨j, hg, rfl, vT, vB, hmk, hgr⟩ := hrel
    have HG := Lib.hid hg
    have HMK := Lib.hid hmk
    have HGR := Lib.hid hgr
    clear hg hmk hgr
    by_cases hj : j < n
    · have hjz : (j : Int) < (n : Int) := by omega
      have HJ := Lib.hid hj
      obtain ⟨AT, kT, rfl⟩ := PmR.os_form HMK.out.T
      obtain ⟨AB, kB, rfl⟩ := PmR.os_form HMK.out.B
      have c0 := HMK.out.bx.cell 0
      have c1 := HMK.out.bx.cell 1
      simp only [List.getElem?_cons_zero, List.getElem?_cons_succ] at c0 c1
      have HOT : Hid (∀ k, (Value.slice AT j kT).ownBlock = some k → d + 1 ≤ k) := fun k e => (os_in HMK.out.T e).1
      have HOB : Hid (∀ k, (Value.slice AB j kB).ownBlock = some k → d + 1 ≤ k) := fun k e => (os_in HMK.out.B e).1
      have HND : Hid (¬ ((Value.slice AT j kT).ownBlock = some d ∨ (Value.slice AB j kB).ownBlock = some d)) := fun e => e.elim (fun e => by have := HOT.out d e; omega) (fun e => by have := HOB.out d e; omega)
      have q0 := up_cell (F := fun k => (Value.slice AT j kT).ownBlock = some k ∨ (Value.slice AB j kB).ownBlock = some k) (w := wr.drew) (p := ⟨d, 0, none⟩) c0 HND.out
      have q1 := up_cell (F := fun k => (Value.slice AT j kT).ownBlock = some k ∨ (Value.slice AB j kB).ownBlock = some k) (w := wr.drew) (p := ⟨d, 1, none⟩) c1 HND.out
      clear c0 c1 hj
      go_upto_region 7 with (fail)
      refine wp_region_tree (Kept fun k => (Value.slice AT j kT).ownBlock = some k ∨ (Value.slice AB j kB).ownBlock = some k) (Kept fun k => ((Value.slice AT j kT).ownBlock = some k ∨ (Value.slice AB j kB).ownBlock = some k) ∨ k = d) (kept_refl _) (kept_trans _) (kept_refl _) (kept_trans _) (fun _ _ h => h.mono fun _ _ x => .inl x) [10, 12]
        (.one true [0, 1, 4, 5] 2 (.one true [] 3 (.one true [9] 6 (.one true [] 7 (.one true [] 8 (.one false [] 10 (.one false [11] 12 (.last false [])))))))) (by kernel_rfl) (by kernel_rfl) ?_
      refine tr_oneE fun K hK => ?_
      simp only [sel, List.map_cons, List.map_nil, List.getD_cons_succ, List.getD_cons_zero]
      repeat (go_big_quiet_step (fail))
      refine wpQuiet_nil ?_
      clear q0 q1
      go_wp2
      refine norm_up (hK _ _ (Lr_early (by decide) (show Kept _ wr.drew (wr.alloc (.cells #[.bool false] 4)).drew from (Kept.refl _ wr.drew).alloc (.cells #[.bool false] 4))) ?_)
      clear hK K
      have HX1 : Hid ((wr.alloc (.cells #[.bool false] 4)).drew.cell? ⟨wr.heap.size, 0, none⟩ = some (.bool false)) := cell_new1 wr _ _
      have HG1 : Hid (Grow wr (wr.alloc (.cells #[.bool false] 4)).drew) := ((Kept.refl _ wr).alloc _).drew
      generalize (wr.alloc (.cells #[.bool false] 4)).drew = x1 at HX1 HG1 ⊢
      obtain ⟨i0, hi0, hz0, hz1, hz2⟩ := info_parts PmK.infoclone_bools
      obtain ⟨g2, cap2, x2, hr2, ho2, hk2, hb2⟩ := append_or (P := Try.prog) 35 0 i0 _ 1 Try.underlying35 hi0 hz0 hz1 hz2 rfl (by omega) (os_gr HMK.out.T HG1.out) (by have := HJ.out; have := HNn.out; omega) (by omega) wr.heap.size 1 (u := fun _ => .bool false) (fun q hq => by obtain rfl : q = 0 := (by omega); exact HX1.out) (fun q hq => rfl)
      have HR2 : Hid (∀ ty, (Builtin.append_ #[35, 35] ty #[.slice AT j kT, .slice (some ⟨wr.heap.size, 0, none⟩) 1 1]).run Try.prog x1 = .ok (.slice (some ⟨g2, 0, none⟩) (j + 1) cap2) x2) := fun ty => hr2
      have HO2 := Lib.hid ho2
      have HK2 := Lib.hid hk2
      have HB2 := Lib.hid hb2
      clear hr2 ho2 hk2 hb2 hi0 hz0 hz1 hz2
      refine tr_oneE fun K hK => ?_
      simp only [sel, List.map_cons, List.map_nil, List.getD_cons_succ, List.getD_cons_zero]
      refine wpQuiet_nil ?_
      go_wp2_with (at_builtin; refine Lib.wpList_append_run _ rfl _ _ _ _ rfl _ _ rfl rfl _ _ (HR2.out _) ?_)
      refine norm_up (hK _ _ (Lr_early (by decide) (HK2.out.mono fun k _ e => .inl e)) ?_)
      clear hK K
      refine tr_oneE fun K hK => ?_
      simp only [sel, List.map_cons, List.map_nil, List.getD_cons_succ, List.getD_cons_zero]
      repeat (go_big_quiet_step (fail))
      refine wpQuiet_nil ?_
      go_wp2_with (go_at_call 51; (with_reducible refine (zeros_any _).mono ?_); rintro e xz ⟨rfl, hgz⟩; have HGZ := Lib.hid hgz; clear hgz)
      refine norm_up (hK _ _ (Lr_early (by decide) (Grow.kept HGZ.out)) ?_)
      clear hK K
      refine tr_oneE fun K hK => ?_
      simp only [sel, List.map_cons, List.map_nil, List.getD_cons_succ, List.getD_cons_zero]
      refine wpQuiet_nil ?_
      go_wp2
      refine norm_up (hK _ _ (Lr_early (by decide) ((Kept.refl _ _).alloc _)) ?_)
      clear hK K
      have HX3 : Hid ((xz.alloc (.cells #[.string (strOfNums zeros)] 9)).cell? ⟨xz.heap.size, 0, none⟩ = some (.string (strOfNums zeros))) := cell_new1 _ _ _
      have HG3 : Hid (Grow x2 (xz.alloc (.cells #[.string (strOfNums zeros)] 9))) := HGZ.out.alloc _
      generalize xz.alloc (.cells #[.string (strOfNums zeros)] 9) = x3 at HX3 HG3 ⊢
      have HB3 : Hid (OS x3 (d + 1 ≤ ·) (.slice AB j kB) 9 1 j (bcell fun _ => zeros)) := os_gr (os_keep (os_gr HMK.out.B HG1.out) HK2.out fun k e e2 => HMK.out.dis k e2 e) HG3.out
      obtain ⟨i0, hi0, hz0, hz1, hz2⟩ := info_parts inforows_str
      obtain ⟨g4, cap4, x4, hr4, ho4, hk4, hb4⟩ := append_or (P := Try.prog) 42 0 i0 _ 16 Try.underlying42 hi0 hz0 hz1 hz2 rfl (by omega) HB3.out (by have := HJ.out; have := HNn.out; omega) (by omega) xz.heap.size 1 (u := fun _ => .string (strOfNums zeros)) (fun q hq => by obtain rfl : q = 0 := (by omega); exact HX3.out) (fun q hq => rfl)
      have HR4 : Hid (∀ ty, (Builtin.append_ #[42, 42] ty #[.slice AB j kB, .slice (some ⟨xz.heap.size, 0, none⟩) 1 1]).run Try.prog x3 = .ok (.slice (some ⟨g4, 0, none⟩) (j + 1) cap4) x4) := fun ty => hr4
      obtain ⟨hm5, hk5, hbx⟩ := HMK.out.two HG1.out HO2.out rfl HK2.out HB2.out HG3.out ho4 rfl hk4 hb4
      have HK4 := Lib.hid hk4
      have HM5 := Lib.hid hm5
      have HK5 := Lib.hid hk5
      have HBX := Lib.hid hbx
      clear hr4 ho4 hk4 hb4 hi0 hz0 hz1 hz2 hm5 hk5 hbx
      refine tr_oneE fun K hK => ?_
      simp only [sel, List.map_cons, List.map_nil, List.getD_cons_succ, List.getD_cons_zero]
      refine wpQuiet_nil ?_
      go_wp2_with (at_builtin; refine Lib.wpList_append_run _ rfl _ _ _ _ rfl _ _ rfl rfl _ _ (HR4.out _) ?_)
      refine norm_up (hK _ _ (Lr_early (by decide) (HK4.out.mono fun k _ e => .inr e)) ?_)
      clear hK K
      have c0 := HBX.out.cell 0
      simp only [List.getElem?_cons_zero] at c0
      have f0 := HBX.out.frozen 0
      have c1 := (HBX.out.set 0 (.slice (some ⟨g2, 0, none⟩) (j + 1) cap2)).cell 1
      simp only [List.set_cons_zero, List.getElem?_cons_zero, List.getElem?_cons_succ] at c1
      have f1 := (HBX.out.set 0 (.slice (some ⟨g2, 0, none⟩) (j + 1) cap2)).frozen 1
      refine tr_oneL fun K hK => ?_
      simp only [sel, List.map_cons, List.map_nil, List.getD_cons_succ, List.getD_cons_zero]
      repeat (go_big_quiet_step (fail))
      refine wpQuiet_nil ?_
      go_wp2
      refine norm_up (hK _ _ (Lr_late (by decide) ((kept_set _ _ _ _).mono fun k _ e => .inr e)) ?_)
      clear hK K c0 f0
      refine tr_oneL fun K hK => ?_
      simp only [sel, List.map_cons, List.map_nil, List.getD_cons_succ, List.getD_cons_zero]
      repeat (go_big_quiet_step (fail))
      refine wpQuiet_nil ?_
      go_wp2
      refine norm_up (hK _ _ (Lr_late (by decide) ((kept_set _ _ _ _).mono fun k _ e => .inr e)) ?_)
      clear hK K c1 f1
      refine tr_lastL fun K hK => ?_
      simp only [sel, List.map_nil]
      refine wpQuiet_nil (hK _ ?_)
      clear hK K
      go_wp2
      go_roundg (gk - 1)
      case measure => have := HG.out; have := HJ.out; omega
      case rel => exact ⟨j + 1, by have := HG.out; have := HJ.out; omega, by go_num, _, _, HM5.out, HGR.out.trans HK5.out⟩
    · obtain rfl : j = n := by have := HG.out; omega
      clear hj HG
      obtain ⟨wq, rfl⟩ : ∃ wq, wq = wr := ⟨_, rfl⟩
      go_wp2
      go_loopg [7] N (fun gx i wr => ∃ k : Nat, k + gx = N ∧ i = .int .i64 (k : Int) ∧ N2 w0 d wq.heap.size j k wr)
      case atStart => exact ⟨0, by omega, rfl, _, _, _, _, _, HMK.out.go, HGR.out, Nat.le_refl _⟩
      case round =>
        clear HMK HGR
        obtain ⟨k, hg, rfl, vT, vB, vH, q, cp, hmk, hgr, hle⟩ := hrel
        have HG := Lib.hid hg
        have HMK := Lib.hid hmk
        have HGR := Lib.hid hgr
        have HLE := Lib.hid hle
        clear hg hmk hgr hle
        by_cases hj : k < N
        · have hjz : (k : Int) < (N : Int) := by omega
          have HJ := Lib.hid hj
          obtain ⟨AH, kH, rfl⟩ := PmR.os_form HMK.out.H.out
          have c2 := HMK.out.bx.cell 2
          simp only [List.getElem?_cons_zero, List.getElem?_cons_succ] at c2
          clear hj
          obtain ⟨x1, hx1⟩ : ∃ x1, x1 = wr.alloc (.cells #[.int .i64 (-1), .int .i64 (-1), .int .i64 (-1), .int .i64 (-1), .int .i64 (-1), .int .i64 (-1)] 3) := ⟨_, rfl⟩
          obtain ⟨x3, hx3⟩ : ∃ x3, x3 = x1.alloc (.cells #[.slice (some ⟨wr.heap.size, 0, none⟩) 6 6] 48) := ⟨_, rfl⟩
          have HRO : Hid (OR x1 wr.heap.size 3 1 6 6 (hcell fun _ => -1)) := by rw [hx1]; exact six_lit wr
          have HG1 : Hid (Grow wr x1) := by rw [hx1]; exact (Kept.refl _ wr).alloc _
          have HG3 : Hid (Grow x1 x3) := by rw [hx3]; exact (Kept.refl _ x1).alloc _
          have hsz1 : x1.heap.size = wr.heap.size + 1 := by rw [hx1]; simp
          have HX3 : Hid (x3.cell? ⟨wr.heap.size + 1, 0, none⟩ = some (.slice (some ⟨wr.heap.size, 0, none⟩) 6 6)) := by rw [hx3, ← hsz1]; exact cell_new1 _ _ _
          have HM3 := Lib.hid ((HMK.out.grow HG1.out).grow HG3.out)
          have HR3 := Lib.hid (HRO.out.kept HG3.out id)
          obtain ⟨g4, cap4, x4, hr4, ho4, hk4, hb4⟩ := Gr.app HM3.out.H (by have := HJ.out; have := HNN.out; omega) HX3.out
          have z1 := HG1.out.size
          have z3 := HG3.out.size
          have zd := HMK.out.bx.lt
          have zl := HLE.out
          obtain ⟨hm5, hk5, hbx⟩ := HM3.out.push (by omega) HR3.out ⟨by omega, by omega⟩ (fun i hi e => by have := (HMK.out.H.row i hi).lt; omega) (fun e => by have := (os_in HMK.out.H.out e).2; omega) ho4 hk4 hb4
          rw [hx3, hx1] at hr4
          have HR4 := Lib.hid hr4
          have HM5 := Lib.hid hm5
          have HK5 := Lib.hid hk5
          have HG13 : Hid (Grow wr x3) := HG1.out.trans HG3.out
          have c4 := hbx.cell 2
          have f4 := hbx.frozen 2
          simp only [List.getElem?_cons_zero, List.getElem?_cons_succ] at c4
          have HSZ5 : Hid (wq.heap.size ≤ (x4.setCell ⟨d, 2, none⟩ (.slice (some ⟨g4, 0, none⟩) (k + 1) cap4)).heap.size) := by have := hk5.size; show _ ≤ _; omega
          clear hr4 ho4 hk4 hb4 hm5 hk5 hbx hx1 hx3 hsz1 z1 z3 zd zl
          go_wp2_with (at_builtin; refine Lib.wpList_append_run _ rfl _ _ _ _ rfl _ _ rfl rfl _ _ (HR4.out _) ?_)
          go_roundg (gk - 1)
          case measure => have := HG.out; have := HJ.out; omega
          case rel => exact ⟨k + 1, by have := HG.out; have := HJ.out; omega, by go_num, _, _, _, _, _, HM5.out, (HGR.out.trans (Grow.kept HG13.out)).trans HK5.out, HSZ5.out⟩
        · obtain rfl : k = N := by have := HG.out; omega
          clear hj HG
          obtain ⟨AT, kT, rfl⟩ := PmR.os_form HMK.out.T
          obtain ⟨AB, kB, rfl⟩ := PmR.os_form HMK.out.B
          obtain ⟨AH, kH, rfl⟩ := PmR.os_form HMK.out.H.out
          have HBR := Lib.hid (HB0.out.kept HGR.out (fun (e : d ≤ B) => by have := HBD.out; omega))
          have c0 := HMK.out.bx.cell 0
          have c1 := HMK.out.bx.cell 1
          have c2 := HMK.out.bx.cell 2
          have t0 := HBR.out.cell 0
          have t1 := HBR.out.cell 1
          have t2 := HBR.out.cell 2
          have tf := HBR.out.frozen
          simp only [List.getElem?_cons_zero, List.getElem?_cons_succ] at c0 c1 c2 t0 t1 t2
          go_wp2
          have hb5 := (((HBR.out.set 0 (.slice AT j kT)).set 1 (.slice AB j kB)).set 2 (.slice AH k kH))
          have hk5 : Kept (fun x => x = B) wr (((wr.setCell ⟨B, 0, none⟩ (.slice AT j kT)).setCell ⟨B, 1, none⟩ (.slice AB j kB)).setCell ⟨B, 2, none⟩ (.slice AH k kH)) := ((kept_set wr B 0 _).trans (kept_set _ B 1 _)).trans (kept_set _ B 2 _)
          rw [HP.out]
          have hpa : SAt wr (d + 1 ≤ ·) (.agg #[(.slice AT j kT), (.slice AB j kB), (.slice AH k kH)]) (fresh j k) := HMK.out.at (good_fresh HNn.out.1 HNn.out.2 HNN.out.1 HNN.out.2)
          exact ret_S rfl rfl hb5 rfl ⟨_, rfl, (hpa.kept hk5 fun x (hx : d + 1 ≤ x) e => by have e : x = B := e; have := HBD.out; omega).mono (fun x _ (hx : d + 1 ≤ x) => by have := HBD.out; show w.heap.size ≤ x; omega), (HG0.out.then HGR.out fun x hx (e : d ≤ x) => by have := HBD.out; omega).then hk5 fun x hx (e : x = B) => by have := HBD.out; omega⟩
end
end Go.Proofs.Ytjdlpknflhgkfaa.MdN
