/-
  Package hist: look, Check, Final (chapter 14).
-/
import Derived.Test.YtjdlpknflhgkfaaHsBy
namespace Go.Proofs.Ytjdlpknflhgkfaa.HsK
open Go.ChangeShapes Go.WideShapes Go.ChangeAt Go.RowKit
open Go.Proofs.Ytjdlpknflhgkfaa.Mem Go.Proofs.Ytjdlpknflhgkfaa.Blk Go.Proofs.Ytjdlpknflhgkfaa.Cells Go.Proofs.Ytjdlpknflhgkfaa.Orow Go.Proofs.Ytjdlpknflhgkfaa.MdM Go.Proofs.Ytjdlpknflhgkfaa.MdC Go.Proofs.Ytjdlpknflhgkfaa.MdD Go.Proofs.Ytjdlpknflhgkfaa.HsM Go.Proofs.Ytjdlpknflhgkfaa.HsE Go.Proofs.Ytjdlpknflhgkfaa.HsB Go.Proofs.Ytjdlpknflhgkfaa.HsL Go.Proofs.Ytjdlpknflhgkfaa.HsO Go.Proofs.Ytjdlpknflhgkfaa.HsW Go.Proofs.Ytjdlpknflhgkfaa.PmC Go.Proofs.Ytjdlpknflhgkfaa.PmM Go.Proofs.Ytjdlpknflhgkfaa.PmF Go.Proofs.Ytjdlpknflhgkfaa.PmN Go.Proofs.Ytjdlpknflhgkfaa.Stages

/-- What look tells. -/
def LookP (L : Nat → Ev) (n : Nat) (p N : Int) (w : World) (e : Ending) (w' : World) : Prop :=
  ∃ X1 n1 c1 X2 n2 c2 X3 n3 c3 r, e = .returned (.tuple #[.agg #[.slice X1 n1 c1, .slice X2 n2 c2, .slice X3 n3 c3], .int .i64 r]) ∧ Chk L n p N r ∧ (r = 0 → ∃ a, Fin L n p N a ∧ PAt w' All (.agg #[.slice X1 n1 c1, .slice X2 n2 c2, .slice X3 n3 c3]) a) ∧ Grow w w'
/-- What Check tells. -/
def ChkP (L : Nat → Ev) (n : Nat) (p N : Int) (w : World) (e : Ending) (w' : World) : Prop := ∃ r, e = .returned (.int .i64 r) ∧ Chk L n p N r ∧ Grow w w'
/-- What Final tells. -/
def FinP (L : Nat → Ev) (n : Nat) (p N : Int) (w : World) (e : Ending) (w' : World) : Prop :=
  ∃ X1 n1 c1 X2 n2 c2 X3 n3 c3 b, e = .returned (.tuple #[.agg #[.slice X1 n1 c1, .slice X2 n2 c2, .slice X3 n3 c3], .bool b]) ∧ (b = true ↔ ∃ a, Fin L n p N a) ∧ (∀ a, Fin L n p N a → PAt w' All (.agg #[.slice X1 n1 c1, .slice X2 n2 c2, .slice X3 n3 c3]) a) ∧ Grow w w'
theorem zero_st (w : World) : Blk (w.alloc (.cells #[.slice none 0 0, .slice none 0 0, .slice none 0 0] 39)) w.heap.size 39 [.slice none 0 0, .slice none 0 0, .slice none 0 0] ∧ Grow w (w.alloc (.cells #[.slice none 0 0, .slice none 0 0, .slice none 0 0] 39)) := ⟨Blk.new w _ _, (Kept.refl _ _).alloc _⟩
theorem st_box (w : World) (x y z : Value) : Blk (w.alloc (.cells #[x, y, z] 39)) w.heap.size 39 [x, y, z] ∧ Grow w (w.alloc (.cells #[x, y, z] 39)) := ⟨Blk.new w _ _, (Kept.refl _ _).alloc _⟩
section
variable {w w' : World} {X G : Nat → Prop} {A : Option Addr} {n : Nat} {L : Nat → Ev}
set_option maxHeartbeats 16000000 in
set_option maxRecDepth 100000 in
theorem look_any (h : EvsAt w X A n L) (hn : n ≤ 100000) (p N : Int) (c : Nat) : Calls Try.prog 29 #[.slice A n c, .int .i64 p, .int .i64 N] w (LookP L n p N w) := by
  obtain ⟨hz, hg⟩ := zero_st w
  have HZ := Lib.hid hz
  have HG0 := Lib.hid hg
  have HE := Lib.hid h
  clear h hz hg
  by_cases hok : okN p N
  · have hok' := hok
    obtain ⟨⟨h1, h2⟩, h3, h4⟩ := hok'
    obtain ⟨pn, rfl⟩ := Int.eq_ofNat_of_zero_le (show 0 ≤ p by omega)
    obtain ⟨Nn, rfl⟩ := Int.eq_ofNat_of_zero_le (show 0 ≤ N by omega)
    have HOK := Lib.hid hok
    have HFR : Hid (fresh' (pn : Int) (Nn : Int) = fresh pn Nn) := rfl
    have CN := Lib.hid (fun wx => new_any pn Nn (by omega) (by omega) (by omega) (by omega) wx)
    have hN6 : Nn ≤ 6 := by omega
    clear hok h1 h2 h3 h4
    go_enter Try.func29, Try.ntmps29
    go_upto_region 1 with (fail)
    generalize w.alloc (.cells #[.slice none 0 0, .slice none 0 0, .slice none 0 0] 39) = w0 at *
    obtain ⟨m, hm⟩ : ∃ m, m = w.heap.size := ⟨_, rfl⟩
    rw [← hm] at HZ ⊢
    have HM := Lib.hid hm
    clear hm
    go_upto_region 2 with (go_at_call 25; (with_reducible refine (CN.out _).mono ?_); rintro e w1 ⟨v, rfl, hpa, hg⟩; obtain ⟨AT, cT, AB, cB, AH, cH, rfl⟩ := pat_form hpa; have HPA := Lib.hid hpa; have HG1 := Lib.hid hg; clear hpa hg)
    obtain ⟨hb2, hg2⟩ := st_box w1 (.slice AT (fresh pn Nn).n cT) (.slice AB (fresh pn Nn).n cB) (.slice AH (fresh pn Nn).N cH)
    generalize w1.alloc (.cells #[.slice AT (fresh pn Nn).n cT, .slice AB (fresh pn Nn).n cB, .slice AH (fresh pn Nn).N cH] 39) = w2 at hb2 hg2 ⊢
    have HP2 := Lib.hid (HPA.out.grow hg2)
    have HG2 : Hid (Grow w w2) := (HG0.out.trans HG1.out).trans hg2
    have HZ2 := Lib.hid ((HZ.out.grow HG1.out).grow hg2)
    have HB2 := Lib.hid hb2
    obtain ⟨q, hq⟩ : ∃ q, q = w1.heap.size := ⟨_, rfl⟩
    rw [← hq] at hb2 HB2 ⊢
    have t0 := hb2.cell 0
    have t1 := hb2.cell 1
    have t2 := hb2.cell 2
    simp only [List.getElem?_cons_zero, List.getElem?_cons_succ] at t0 t1 t2
    have CM := Lib.hid (t_may HP2.out)
    clear hb2 hg2 hq HPA HG1 HZ HG0 CN
    go_upto_region 4 with (go_at_call 41; (with_reducible refine CM.out.mono ?_); rintro e w3 ⟨rfl, hg⟩; have HG3 := Lib.hid hg; clear hg)
    have CB := Lib.hid (byThem_any ((HE.out.grow HG2.out).grow HG3.out) hn Nn hN6 c)
    have HB3 := Lib.hid (HB2.out.grow HG3.out)
    clear t0 t1 t2 CM
    go_upto_region 5 with (go_at_call 49; (with_reducible refine CB.out.mono ?_); rintro e w4 ⟨r, rfl, hr, hg⟩; have HR := Lib.hid hr; have HG4 := Lib.hid hg; clear hr hg)
    have HG5 : Hid (Grow w w4) := (HG2.out.trans HG3.out).trans HG4.out
    have HB4 := Lib.hid (HB3.out.grow HG4.out)
    have HZ4 := Lib.hid ((HZ2.out.grow HG3.out).grow HG4.out)
    have HP4 := Lib.hid ((HP2.out.grow HG3.out).grow HG4.out)
    have t0 := HB4.out.cell 0
    have t1 := HB4.out.cell 1
    have t2 := HB4.out.cell 2
    have z0 := HZ4.out.cell 0
    have z1 := HZ4.out.cell 1
    have z2 := HZ4.out.cell 2
    have zf := HZ4.out.frozenAll
    simp only [List.getElem?_cons_zero, List.getElem?_cons_succ] at t0 t1 t2 z0 z1 z2
    by_cases hr0 : r = 0
    · have HR0 : Hid (Fst L (Nn : Int) n 0) := by rw [← hr0]; exact HR.out
      subst hr0
      have CO := Lib.hid (byOrder_any (HE.out.grow HG5.out) hn HP4.out c)
      clear z0 z1 z2 zf
      go_upto_region 7 with (fail)
      go_wp2_with (go_at_call 50; (with_reducible refine CO.out.mono ?_); rintro e w5 ⟨Y1, y1, d1, Y2, y2, d2, Y3, y3, d3, r, l, rfl, ho, hr, hp, hg⟩; have HO := Lib.hid ho; have HRR := Lib.hid hr; have HP := Lib.hid hp; have HG6 := Lib.hid hg; have hz5 := HZ4.out.grow hg; have HZ5 := Lib.hid hz5; have z0 := hz5.cell 0; have z1 := hz5.cell 1; have z2 := hz5.cell 2; have zf := hz5.frozenAll; simp only [List.getElem?_cons_zero, List.getElem?_cons_succ] at z0 z1 z2; clear ho hr hp hg hz5)
      refine ret_st2 rfl rfl (PmD.put3_blk HZ5.out) rfl ?_
      have hk3 := PmD.put3_kept (F := fun k => k = m) w5 m (.slice Y1 y1 d1) (.slice Y2 y2 d2) (.slice Y3 y3 d3) fun k e => e
      refine ⟨_, _, _, _, _, _, _, _, _, r, rfl, .inr ⟨HOK.out, .inr ⟨HR0.out, l, HO.out, HRR.out⟩⟩, fun h0 => ?_, (HG5.out.trans HG6.out).then hk3 fun k hk e => by have := HM.out; omega⟩
      refine ⟨_, ⟨HOK.out, HR0.out, l, HO.out, Prod.ext (by rw [HFR.out, ← HRR.out, h0]) rfl⟩, ?_⟩
      exact ((pat_box (HP.out h0) HZ5.out).kept hk3 fun k x e => x.2 e).mono fun _ _ _ => trivial
    · have hr0' : (r != 0) = true := by simpa using hr0
      have HR0 := Lib.hid hr0
      clear hr0
      go_wp2
      refine ret_st2 rfl rfl (PmD.put3_blk HZ4.out) rfl ?_
      have hk3 := PmD.put3_kept (F := fun k => k = m) w4 m (.slice AT (fresh pn Nn).n cT) (.slice AB (fresh pn Nn).n cB) (.slice AH (fresh pn Nn).N cH) fun k e => e
      exact ⟨_, _, _, _, _, _, _, _, _, r, rfl, .inr ⟨HOK.out, .inl ⟨HR.out, HR0.out⟩⟩, fun h0 => absurd h0 HR0.out, HG5.out.then hk3 fun k hk e => by have := HM.out; omega⟩
  · have HNO := Lib.hid hok
    have CN := Lib.hid (fun wx => new_bad p N wx hok)
    clear hok
    go_enter Try.func29, Try.ntmps29
    go_upto_region 1 with (fail)
    generalize w.alloc (.cells #[.slice none 0 0, .slice none 0 0, .slice none 0 0] 39) = w0 at *
    obtain ⟨m, hm⟩ : ∃ m, m = w.heap.size := ⟨_, rfl⟩
    rw [← hm] at HZ ⊢
    have HM := Lib.hid hm
    clear hm
    go_upto_region 2 with (go_at_call 25; (with_reducible refine (CN.out _).mono ?_); rintro e w1 ⟨rfl, hg⟩; have HG1 := Lib.hid hg; clear hg)
    obtain ⟨hb2, hg2⟩ := zero_st w1
    generalize w1.alloc (.cells #[.slice none 0 0, .slice none 0 0, .slice none 0 0] 39) = w2 at hb2 hg2 ⊢
    have HG2 : Hid (Grow w w2) := (HG0.out.trans HG1.out).trans hg2
    have HZ2 := Lib.hid ((HZ.out.grow HG1.out).grow hg2)
    have HB2 := Lib.hid hb2
    generalize w1.heap.size = q at hb2 HB2 ⊢
    have t0 := hb2.cell 0
    have t1 := hb2.cell 1
    have t2 := hb2.cell 2
    simp only [List.getElem?_cons_zero, List.getElem?_cons_succ] at t0 t1 t2
    clear hb2 hg2
    go_upto_region 3 with (go_at_call 41; (with_reducible refine (t_mayZero _).mono ?_); rintro e w3 ⟨rfl, hg⟩; have HG3 := Lib.hid hg; clear hg)
    have HB3 := Lib.hid (HB2.out.grow HG3.out)
    have HZ3 := Lib.hid (HZ2.out.grow HG3.out)
    clear t0 t1 t2
    have t0 := HB3.out.cell 0
    have t1 := HB3.out.cell 1
    have t2 := HB3.out.cell 2
    have z0 := HZ3.out.cell 0
    have z1 := HZ3.out.cell 1
    have z2 := HZ3.out.cell 2
    have zf := HZ3.out.frozenAll
    simp only [List.getElem?_cons_zero, List.getElem?_cons_succ] at t0 t1 t2 z0 z1 z2
    go_wp2
    refine ret_st2 rfl rfl (PmD.put3_blk HZ3.out) rfl ?_
    have hk3 := PmD.put3_kept (F := fun k => k = m) w3 m (.slice none 0 0) (.slice none 0 0) (.slice none 0 0) fun k e => e
    exact ⟨_, _, _, _, _, _, _, _, _, -1, rfl, .inl ⟨HNO.out, rfl⟩, fun h0 => by omega, (HG2.out.trans HG3.out).then hk3 fun k hk e => by have := HM.out; omega⟩
set_option maxHeartbeats 8000000 in
set_option maxRecDepth 100000 in
theorem check_any (h : EvsAt w X A n L) (hn : n ≤ 100000) (p N : Int) (c : Nat) : Calls Try.prog 11 #[.slice A n c, .int .i64 p, .int .i64 N] w (ChkP L n p N w) := by
  have CL := Lib.hid (look_any h hn p N c)
  clear h
  go_enter Try.func11, Try.ntmps11
  go_upto_region 2 with (go_at_call 29; (with_reducible refine CL.out.mono ?_); rintro e w1 ⟨X1, n1, c1, X2, n2, c2, X3, n3, c3, r, rfl, hr, hp, hg⟩; have HR := Lib.hid hr; have HG := Lib.hid hg; clear hr hp hg)
  have hg2 := (st_box w1 (.slice X1 n1 c1) (.slice X2 n2 c2) (.slice X3 n3 c3)).2
  generalize w1.alloc (.cells #[.slice X1 n1 c1, .slice X2 n2 c2, .slice X3 n3 c3] 39) = w2 at hg2 ⊢
  have HG2 := Lib.hid hg2
  clear hg2
  go_wp2
  go_ret
  exact ⟨r, rfl, HR.out, HG.out.trans HG2.out⟩
set_option maxHeartbeats 8000000 in
set_option maxRecDepth 100000 in
theorem final_any (h : EvsAt w X A n L) (hn : n ≤ 100000) (p N : Int) (c : Nat) : Calls Try.prog 13 #[.slice A n c, .int .i64 p, .int .i64 N] w (FinP L n p N w) := by
  obtain ⟨hz, hg⟩ := zero_st w
  have HZ := Lib.hid hz
  have HG0 := Lib.hid hg
  have CL := Lib.hid (look_any (h.grow hg) hn p N c)
  clear h hz hg
  go_enter Try.func13, Try.ntmps13
  go_upto_region 1 with (fail)
  generalize w.alloc (.cells #[.slice none 0 0, .slice none 0 0, .slice none 0 0] 39) = w0 at *
  obtain ⟨m, hm⟩ : ∃ m, m = w.heap.size := ⟨_, rfl⟩
  rw [← hm] at HZ ⊢
  have HM := Lib.hid hm
  clear hm
  go_upto_region 2 with (go_at_call 29; (with_reducible refine CL.out.mono ?_); rintro e w1 ⟨X1, n1, c1, X2, n2, c2, X3, n3, c3, r, rfl, hr, hp, hg⟩; have HR := Lib.hid hr; have HP := Lib.hid hp; have HG1 := Lib.hid hg; clear hr hp hg)
  obtain ⟨hb2, hg2⟩ := st_box w1 (.slice X1 n1 c1) (.slice X2 n2 c2) (.slice X3 n3 c3)
  generalize w1.alloc (.cells #[.slice X1 n1 c1, .slice X2 n2 c2, .slice X3 n3 c3] 39) = w2 at hb2 hg2 ⊢
  have HG2 : Hid (Grow w w2) := (HG0.out.trans HG1.out).trans hg2
  have HGX := Lib.hid hg2
  have HZ2 := Lib.hid ((HZ.out.grow HG1.out).grow hg2)
  generalize w1.heap.size = q at hb2 ⊢
  have t0 := hb2.cell 0
  have t1 := hb2.cell 1
  have t2 := hb2.cell 2
  have z0 := HZ2.out.cell 0
  have z1 := HZ2.out.cell 1
  have z2 := HZ2.out.cell 2
  have zf := HZ2.out.frozenAll
  simp only [List.getElem?_cons_zero, List.getElem?_cons_succ] at t0 t1 t2 z0 z1 z2
  clear hb2 hg2
  by_cases hr0 : r = 0
  · have HR0 : Hid (Chk L n p N 0) := by rw [← hr0]; exact HR.out
    have HP0 := Lib.hid (HP.out hr0)
    subst hr0
    go_wp2
    refine ret_st2 rfl rfl (PmD.put3_blk HZ2.out) rfl ?_
    have hk3 := PmD.put3_kept (F := fun k => k = m) w2 m (.slice X1 n1 c1) (.slice X2 n2 c2) (.slice X3 n3 c3) fun k e => e
    obtain ⟨a, ha, hpa⟩ := HP0.out
    refine ⟨_, _, _, _, _, _, _, _, _, true, rfl, ⟨fun _ => ⟨a, ha⟩, fun _ => rfl⟩, fun a' ha' => ?_, HG2.out.then hk3 fun k hk e => by have := HM.out; omega⟩
    rw [fin_unique ha' ha]
    exact ((pat_box (hpa.grow HGX.out) HZ2.out).kept hk3 fun k x e => x.2 e).mono fun _ _ _ => trivial
  · have hr0' : (r != 0) = true := by simpa using hr0
    have HR0 : Hid (∀ a, ¬ Fin L n p N a) := fun a ha => hr0 ((fin_iff HR.out).2 ⟨a, ha⟩)
    clear hr0
    go_wp2
    refine ret_st2 rfl rfl (PmD.put3_blk HZ2.out) rfl ?_
    have hk3 := PmD.put3_kept (F := fun k => k = m) w2 m (.slice none 0 0) (.slice none 0 0) (.slice none 0 0) fun k e => e
    exact ⟨_, _, _, _, _, _, _, _, _, false, rfl, ⟨fun h => Bool.noConfusion h, fun ⟨a, ha⟩ => absurd ha (HR0.out a)⟩, fun a ha => absurd ha (HR0.out a), HG2.out.then hk3 fun k hk e => by have := HM.out; omega⟩
end
#print axioms final_any
end Go.Proofs.Ytjdlpknflhgkfaa.HsK
