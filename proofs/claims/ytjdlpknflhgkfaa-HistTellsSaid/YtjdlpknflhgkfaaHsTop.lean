/-
  Few, the document's Check and Final, Is, arguments that are structs: as one text (chapter 14).
-/
import Derived.Test.YtjdlpknflhgkfaaHsEv
import Derived.Test.YtjdlpknflhgkfaaPmMay
import Derived.Test.YtjdlpknflhgkfaaHsRA
import Derived.Test.YtjdlpknflhgkfaaHsRS
import Derived.Test.YtjdlpknflhgkfaaHsRO
import Derived.Test.YtjdlpknflhgkfaaHsChk
import Derived.Test.YtjdlpknflhgkfaaMdNew
import Derived.Test.YtjdlpknflhgkfaaInts
import Derived.Test.YtjdlpknflhgkfaaMdCalls
import Derived.Test.YtjdlpknflhgkfaaPm
import Derived.ChangeArms
namespace Go.Proofs.Ytjdlpknflhgkfaa.HsF
open Go.ChangeShapes Go.WideShapes Go.ChangeAt Go.RowKit
open Go.Proofs.Ytjdlpknflhgkfaa.Mem Go.Proofs.Ytjdlpknflhgkfaa.Blk Go.Proofs.Ytjdlpknflhgkfaa.Cells Go.Proofs.Ytjdlpknflhgkfaa.MdM Go.Proofs.Ytjdlpknflhgkfaa.HsM Go.Proofs.Ytjdlpknflhgkfaa.HsE Go.Proofs.Ytjdlpknflhgkfaa.PmM Go.Proofs.Ytjdlpknflhgkfaa.Stages

/-- At most 60 events, of at most 40 bytes. -/
def FewH (n : Nat) (L : Nat → Ev) : Prop := n ≤ 60 ∧ ∀ i, i < n → (L i).o.d.length ≤ 40 ∧ (L i).r.d.length ≤ 40
section
variable {w w' : World} {X : Nat → Prop} {A : Option Addr} {n : Nat} {L : Nat → Ev}
set_option maxHeartbeats 4000000 in
theorem few_any (h : EvsAt w X A n L) (hn : n ≤ maxLen) (c : Nat) : Calls Try.prog 12 #[.slice A n c] w (Tells (FewH n L) w) := by
  have HE := Lib.hid h
  unfold maxLen at hn
  have hnz : (n : Int) ≤ 9223372036854775807 := by omega
  clear h
  go_enter Try.func12, Try.ntmps12
  go_wp2
  go_loopg [3] n (fun gx i wr => ∃ j : Nat, j + gx = n ∧ i = .int .i64 (j : Int) ∧ w = wr ∧ ∀ k, k < j → (L k).o.d.length ≤ 40 ∧ (L k).r.d.length ≤ 40)
  case atStart => exact ⟨0, by omega, rfl, rfl, fun k hk => absurd hk (Nat.not_lt_zero k)⟩
  case round =>
    obtain ⟨j, hg, rfl, rfl, hok⟩ := hrel
    have HG := Lib.hid hg
    have HOK := Lib.hid hok
    clear hg hok
    by_cases hj : j < n
    · have hjz : (j : Int) < (n : Int) := by omega
      have HJ := Lib.hid hj
      obtain ⟨b, off, rfl, hall⟩ := HE.out (by omega)
      obtain ⟨D, dl, dc, A', al, ac, hc, hd⟩ := hall j hj
      have c6 := hc 6 _ rfl
      have c10 := hc 10 _ rfl
      have HDL : Hid ((L j).o.d.length = dl ∧ (L j).r.d.length = al) := ⟨hd.d.len, hd.a.len⟩
      have hdm : (dl : Int) ≤ 9223372036854775807 := by have := hd.dc; unfold maxLen at this; omega
      have ham : (al : Int) ≤ 9223372036854775807 := by have := hd.ac; unfold maxLen at this; omega
      clear hall hc hd hj
      by_cases h1 : (40 : Int) < (dl : Int)
      · have HN : Hid (¬ FewH n L) := fun h => by have h1' := (h.2 j HJ.out).1; have := HDL.out.1; omega
        go_wp2
        go_ret
        exact Tells.no HN.out (Kept.refl _ _)
      by_cases h2 : (40 : Int) < (al : Int)
      · have HN : Hid (¬ FewH n L) := fun h => by have h1' := (h.2 j HJ.out).2; have := HDL.out.2; omega
        go_wp2
        go_ret
        exact Tells.no HN.out (Kept.refl _ _)
      have HP : Hid (∀ k, k < j + 1 → (L k).o.d.length ≤ 40 ∧ (L k).r.d.length ≤ 40) := fun k hk => by
        by_cases e : k = j
        · subst e
          have := HDL.out
          omega
        · exact HOK.out k (by omega)
      go_wp2
      go_roundg (gk - 1)
      case measure => have := HG.out; have := HJ.out; omega
      case rel => exact ⟨j + 1, by have := HG.out; have := HJ.out; omega, by go_num, rfl, HP.out⟩
    · have hjN : j = n := by have := HG.out; omega
      subst hjN
      clear hj
      by_cases h6 : j ≤ 60
      · have h6z : (j : Int) ≤ 60 := by omega
        have HP : Hid (FewH j L) := ⟨h6, HOK.out⟩
        go_wp2
        go_ret
        exact Tells.yes HP.out (Kept.refl _ _)
      · have h6z : ¬ (j : Int) ≤ 60 := by omega
        have HP : Hid (¬ FewH j L) := fun h => h6 h.1
        go_wp2
        go_ret
        exact Tells.no HP.out (Kept.refl _ _)
end
#print axioms few_any
end Go.Proofs.Ytjdlpknflhgkfaa.HsF
namespace Go.Proofs.Ytjdlpknflhgkfaa.HsRC
open Go.ChangeShapes Go.WideShapes Go.ChangeAt Go.RowKit
open Go.Proofs.Ytjdlpknflhgkfaa.Mem Go.Proofs.Ytjdlpknflhgkfaa.Blk Go.Proofs.Ytjdlpknflhgkfaa.Cells Go.Proofs.Ytjdlpknflhgkfaa.MdM Go.Proofs.Ytjdlpknflhgkfaa.MdC Go.Proofs.Ytjdlpknflhgkfaa.MdD Go.Proofs.Ytjdlpknflhgkfaa.MdN Go.Proofs.Ytjdlpknflhgkfaa.HsM Go.Proofs.Ytjdlpknflhgkfaa.HsE Go.Proofs.Ytjdlpknflhgkfaa.HsB Go.Proofs.Ytjdlpknflhgkfaa.HsL Go.Proofs.Ytjdlpknflhgkfaa.HsO Go.Proofs.Ytjdlpknflhgkfaa.HsK Go.Proofs.Ytjdlpknflhgkfaa.HsRA Go.Proofs.Ytjdlpknflhgkfaa.HsRS Go.Proofs.Ytjdlpknflhgkfaa.HsRO Go.Proofs.Ytjdlpknflhgkfaa.PmM Go.Proofs.Ytjdlpknflhgkfaa.Stages

/-- What the document's Final tells. -/
def RFinP (L : Nat → Ev) (n : Nat) (p N : Int) (w : World) (e : Ending) (w' : World) : Prop :=
  ∃ X1 n1 c1 X2 n2 c2 X3 n3 c3 b, e = .returned (.tuple #[.agg #[.slice X1 n1 c1, .slice X2 n2 c2, .slice X3 n3 c3], .bool b]) ∧ (b = true ↔ ∃ a, Fin L n p N a) ∧ (∀ a, Fin L n p N a → SAt w' (w.heap.size ≤ ·) (.agg #[.slice X1 n1 c1, .slice X2 n2 c2, .slice X3 n3 c3]) a) ∧ Grow w w'
/-- What the loop over the order has. -/
def RcLoop (L : Nat → Ev) (l : List Nat) (a0 : Md) (G : Nat → Prop) (v : Value) (w3 : World) (gx : Nat) (v10 : Value) (wr : World) : Prop :=
  ∃ (k : Nat) (a : Md), k + gx = l.length ∧ v10 = .int .i64 (k : Int) ∧ SAt wr G v a ∧ Kept G w3 wr ∧ runL L l a0 = runL L (l.drop k) a
theorem fresh_len (p N : Nat) : (fresh p N).n = p := rfl
theorem ret_S2 {w : World} {fn : Func} {R : Ending → World → Prop} {act : Act} {p u g : Nat} {t : TypeId} {x y z : Value} (h : fn.results = #[.cell p 44, .tmp u]) (hp : act.tmps.getD p undef = .pointer (some ⟨g, 0, none⟩)) (hg : Blk w g t [x, y, z]) (hd : act.defers = []) (hR : R (.returned (.tuple #[.agg #[x, y, z], act.tmps.getD u undef])) w) : bodyPost Try.prog fn R .ret act w := by
  refine bodyPost_ret ?_ hd hR
  have hp' : act.tmps[p]?.getD undef = .pointer (some ⟨g, 0, none⟩) := by simpa using hp
  simp [results, h, hp', asAddr, load_S hg]
theorem drop_at {l : List Nat} {k : Nat} (hk : k < l.length) : l.drop k = l.getD k 0 :: l.drop (k + 1) ∧ l.getD k 0 ∈ l := by
  have e : l.getD k 0 = l[k] := by rw [List.getD_eq_getElem?_getD, List.getElem?_eq_getElem hk]; rfl
  rw [e]
  exact ⟨List.drop_eq_getElem_cons hk, List.getElem_mem hk⟩
theorem fresh_form {w : World} {G : Nat → Prop} {v : Value} {p N : Nat} (h : SAt w G v (fresh p N)) : ∃ X1 c1 X2 c2 X3 c3, v = .agg #[.slice X1 p c1, .slice X2 p c2, .slice X3 N c3] := by
  obtain ⟨gT, cT, gB, cB, gH, cH, q, cp, rfl, _⟩ := h.mem
  exact ⟨_, _, _, _, _, _, rfl⟩
section
variable {w w' : World} {X : Nat → Prop} {A : Option Addr} {n : Nat} {L : Nat → Ev}

set_option maxHeartbeats 16000000 in
set_option maxRecDepth 100000 in
theorem rcheck_any (h : EvsAt w X A n L) (hn : n ≤ 100000) (p N : Int) (c : Nat) : Calls Try.prog 18 #[.slice A n c, .int .i64 p, .int .i64 N] w (ChkP L n p N w) := by
  have hnz : (n : Int) ≤ 100000 := by omega
  have HE := Lib.hid (h.mono (Y := fun k => k < w.heap.size) fun k hk _ => hk)
  clear h
  by_cases hok : okN p N
  · have hok' := hok
    obtain ⟨⟨h1, h2⟩, h3, h4⟩ := hok'
    obtain ⟨pn, rfl⟩ := Int.eq_ofNat_of_zero_le (show 0 ≤ p by omega)
    obtain ⟨Nn, rfl⟩ := Int.eq_ofNat_of_zero_le (show 0 ≤ N by omega)
    have HOKN := Lib.hid hok
    have CN := Lib.hid (fun wx => rnew_any pn Nn (by omega) (by omega) (by omega) (by omega) wx)
    have hpz : ((pn : Int) == 0) = false := by rw [beq_eq_false_iff_ne]; omega
    have hpz2 : (pn == 0) = false := by rw [beq_eq_false_iff_ne]; omega
    clear hok h1 h2 h3 h4
    obtain ⟨s, hs⟩ : ∃ s, s = w.heap.size := ⟨_, rfl⟩
    have HSQ := Lib.hid hs
    clear hs
    go_enter Try.func18, Try.ntmps18
    go_upto_region 2 with (go_at_call 30; (with_reducible refine (CN.out _).mono ?_); rintro e w1 ⟨v, rfl, hsa, hg⟩; have HSA0 := Lib.hid hsa; have HG1 := Lib.hid hg; obtain ⟨X1, c1, X2, c2, X3, c3, rfl⟩ := fresh_form hsa; clear hsa hg)
    obtain ⟨hbx, hg2⟩ := s_box w1 (.slice X1 pn c1) (.slice X2 pn c2) (.slice X3 Nn c3)
    generalize w1.alloc (.cells #[.slice X1 pn c1, .slice X2 pn c2, .slice X3 Nn c3] 44) = w2 at hbx hg2 ⊢
    obtain ⟨q, hq⟩ : ∃ q, q = w1.heap.size := ⟨_, rfl⟩
    have HSA2 : Hid (SAt w2 (fun k => s ≤ k ∧ k < q) (.agg #[.slice X1 pn c1, .slice X2 pn c2, .slice X3 Nn c3]) (fresh pn Nn)) := (HSA0.out.mono fun k hk (hk2 : w.heap.size ≤ k) => ⟨by have := HSQ.out; omega, by omega⟩).grow hg2
    rw [← hq] at hbx ⊢
    have HG2 : Hid (Grow w w2) := (HG1.out).trans hg2
    have HBX2 := Lib.hid hbx
    have HQ2 : Hid (s ≤ q ∧ q < w2.heap.size) := ⟨by have := HSQ.out; have := HG1.out.size; omega, hbx.lt⟩
    have t0 := hbx.cell 0
    simp only [List.getElem?_cons_zero] at t0
    clear hbx hg2 hq HSA0 CN
    go_wp2
    go_loopg [8] n (fun gx v wr => ∃ j : Nat, j + gx = n ∧ v = .int .i64 (j : Int) ∧ Grow w2 wr ∧ ∀ k, k < j → okAt L (Nn : Int) k)
    case atStart => exact ⟨0, by omega, rfl, Kept.refl _ _, fun k hk => absurd hk (Nat.not_lt_zero k)⟩
    case round =>
      obtain ⟨j, hg, rfl, hgr, hok⟩ := hrel
      have HG := Lib.hid hg
      have HGR := Lib.hid hgr
      have HOK := Lib.hid hok
      clear hg hgr hok t0
      by_cases hj : j < n
      · have hjz : (j : Int) < (n : Int) := by omega
        have HJ := Lib.hid hj
        have HGW : Hid (Grow w wr) := HG2.out.trans HGR.out
        have CA := Lib.hid (alone_any (HE.out.grow HGW.out) hn j hj (Nn : Int) c)
        clear hj
        by_cases hko : okAt L (Nn : Int) j
        · have HKO := Lib.hid hko
          clear hko
          go_wp2_with (go_at_call 36; (with_reducible refine CA.out.mono ?_); rintro e wa ⟨⟨b, rfl, hb⟩, hga⟩; obtain rfl : b = true := hb.2 HKO.out; have HGA := Lib.hid hga; clear hb hga)
          go_roundg (gk - 1)
          case measure => have := HG.out; have := HJ.out; omega
          case rel => exact ⟨j + 1, by have := HG.out; have := HJ.out; omega, by go_num, HGR.out.trans HGA.out, fun k hk => by
            by_cases e : k = j
            · subst e; exact HKO.out
            · exact HOK.out k (by omega)⟩
        · have HKO := Lib.hid hko
          clear hko
          go_wp2_with (go_at_call 36; (with_reducible refine CA.out.mono ?_); rintro e wa ⟨⟨b, rfl, hb⟩, hga⟩; obtain rfl : b = false := (Bool.eq_false_iff.2 fun h => HKO.out (hb.1 h)); have HGA := Lib.hid hga; clear hb hga)
          go_ret
          exact ⟨_, rfl, .inr ⟨HOKN.out, .inl ⟨.inr ⟨j, HJ.out, rfl, HKO.out, HOK.out⟩, by omega⟩⟩, HGW.out.trans HGA.out⟩
      · have hjN : j = n := by have := HG.out; omega
        subst hjN
        clear hj
        obtain ⟨w2', hw2⟩ : ∃ w2', w2' = wr := ⟨_, rfl⟩
        subst hw2
        have HGW : Hid (Grow w w2') := HG2.out.trans HGR.out
        have CO := Lib.hid (rorder_any (HE.out.grow HGW.out) hn c)
        have HQ : Hid (q < w2'.heap.size) := Nat.lt_of_lt_of_le HQ2.out.2 HGR.out.size
        go_wp2_with (go_at_call 17; (with_reducible refine CO.out.mono ?_); rintro e w3 ⟨l, OA, oc, rfl, ho, hsl, hnew, hg⟩; have HO := Lib.hid ho; have HSL := Lib.hid hsl; have HNW := Lib.hid hnew; have HGO := Lib.hid hg; clear ho hsl hnew hg)
        have HG3 : Hid (Grow w w3) := HGW.out.trans HGO.out
        have HSA3 := Lib.hid ((HSA2.out.grow HGR.out).grow HGO.out)
        have HBX := Lib.hid ((HBX2.out.grow HGR.out).grow HGO.out)
        have hlz : (l.length : Int) ≤ 100000 := by have := ord_len HO.out; omega
        go_loopg [10] l.length (RcLoop L l (fresh' (pn : Int) (Nn : Int)) (fun k => s ≤ k ∧ k < q) (.agg #[.slice X1 pn c1, .slice X2 pn c2, .slice X3 Nn c3]) w3)
        case atStart => exact ⟨0, _, by omega, rfl, HSA3.out, Kept.refl _ _, by rw [List.drop_zero]; rfl⟩
        case round =>
          obtain ⟨k, a, hg, rfl, hsa, hkp, hrun⟩ := hrel
          have HG := Lib.hid hg
          have HSA := Lib.hid hsa
          have HKP := Lib.hid hkp
          have HRUN := Lib.hid hrun
          clear hg hsa hkp hrun
          by_cases hk : k < l.length
          · have hkz : (k : Int) < (l.length : Int) := by omega
            have HK := Lib.hid hk
            obtain ⟨hdr, him⟩ := drop_at hk
            obtain ⟨ob, oo, rfl, hob, hoc⟩ := HSL.out.at_ (by omega)
            have hobq : ¬ (s ≤ ob ∧ ob < q) := by have h1 := HNW.out (by omega) _ rfl; have h2 := HQ.out; intro h3; have h1 : w2'.heap.size ≤ ob := h1; omega
            have HOBQ := Lib.hid hobq
            have HO1 := Lib.hid (hoc k hk)
            rw [nums_get] at HO1
            have o1 := HKP.out.cellN HO1.out hobq
            generalize l.getD k 0 = i at *
            have hin := (ord_lt HO.out him).1
            have hinz : (i : Int) < (j : Int) := by omega
            have HDR : Hid (runL L l (fresh' (pn : Int) (Nn : Int)) = runL L (i :: l.drop (k + 1)) a) := by unfold Hid; rw [HRUN.out, hdr]
            have HEI : Hid (0 ≤ (L i).e) := ok_end (HOK.out i hin)
            obtain ⟨b, off, rfl, hall⟩ := HE.out (by omega)
            have hbs : b < w.heap.size := (hall i hin).lt
            obtain ⟨D, dl, dc, A', al, ac, hc, hd⟩ := ((hall i hin).kept HG3.out id (fun _ _ _ => id)).kept HKP.out (fun h => by have := HSQ.out; omega) (fun k _ hx h => by have := HSQ.out; omega)
            have c0 := hc 0 _ rfl
            have c1 := hc 1 _ rfl
            have c2 := hc 2 _ rfl
            have c3 := hc 3 _ rfl
            have c4 := hc 4 _ rfl
            have c5 := hc 5 _ rfl
            have c6 := hc 6 _ rfl
            have c7 := hc 7 _ rfl
            have c8 := hc 8 _ rfl
            have c9 := hc 9 _ rfl
            have c10 := hc 10 _ rfl
            have c11 := hc 11 _ rfl
            have c12 := hc 12 _ rfl
            have c13 := hc 13 _ rfl
            simp only [Nat.add_zero] at c0
            have HD := Lib.hid hd
            have hqb := HBX.out.kept HKP.out (fun h => by omega)
            have t0 := hqb.cell 0
            have t1 := hqb.cell 1
            have t2 := hqb.cell 2
            simp only [List.getElem?_cons_zero, List.getElem?_cons_succ] at t0 t1 t2
            have HSZ : Hid (q ≤ wr.heap.size) := Nat.le_trans (Nat.le_of_lt HBX.out.lt) HKP.out.size
            have CS := Lib.hid (step_any (HSA.out.grow (Kept.drew' wr)) (fun k hk => Nat.lt_of_lt_of_le hk.2 HSZ.out) (HD.out.kept (Kept.drew' (F := fun _ => False) wr) fun _ _ _ => id) (fun k _ hx h => by have := HSQ.out; omega) HEI.out)
            have hbq : ¬ (s ≤ b ∧ b < q) := fun h => by have := HSQ.out; omega
            have hqq : ¬ (s ≤ q ∧ q < q) := fun h => by omega
            have u0 := up_cell (F := fun k => s ≤ k ∧ k < q) (w := wr.drew) c0 hbq
            have u1 := up_cell (F := fun k => s ≤ k ∧ k < q) (w := wr.drew) c1 hbq
            have u2 := up_cell (F := fun k => s ≤ k ∧ k < q) (w := wr.drew) c2 hbq
            have u3 := up_cell (F := fun k => s ≤ k ∧ k < q) (w := wr.drew) c3 hbq
            have u4 := up_cell (F := fun k => s ≤ k ∧ k < q) (w := wr.drew) c4 hbq
            have u5 := up_cell (F := fun k => s ≤ k ∧ k < q) (w := wr.drew) c5 hbq
            have u6 := up_cell (F := fun k => s ≤ k ∧ k < q) (w := wr.drew) c6 hbq
            have u7 := up_cell (F := fun k => s ≤ k ∧ k < q) (w := wr.drew) c7 hbq
            have u8 := up_cell (F := fun k => s ≤ k ∧ k < q) (w := wr.drew) c8 hbq
            have u9 := up_cell (F := fun k => s ≤ k ∧ k < q) (w := wr.drew) c9 hbq
            have u10 := up_cell (F := fun k => s ≤ k ∧ k < q) (w := wr.drew) c10 hbq
            have u11 := up_cell (F := fun k => s ≤ k ∧ k < q) (w := wr.drew) c11 hbq
            have u12 := up_cell (F := fun k => s ≤ k ∧ k < q) (w := wr.drew) c12 hbq
            have u13 := up_cell (F := fun k => s ≤ k ∧ k < q) (w := wr.drew) c13 hbq
            have v0 := up_cell (F := fun k => s ≤ k ∧ k < q) (w := wr.drew) t0 hqq
            have v1 := up_cell (F := fun k => s ≤ k ∧ k < q) (w := wr.drew) t1 hqq
            have v2 := up_cell (F := fun k => s ≤ k ∧ k < q) (w := wr.drew) t2 hqq
            have uo := up_cell (F := fun k => s ≤ k ∧ k < q) (w := wr.drew) o1 hobq
            clear hc hd hall hk hdr him hoc hob hqb c0 c1 c2 c3 c4 c5 c6 c7 c8 c9 c10 c11 c12 c13 t0 t1 t2 o1
            go_upto_region 13 with (fail)
            refine wp_region_stages (Kept fun k => s ≤ k ∧ k < q) (kept_refl _) (kept_trans _) [([0, 1, 2, 3, 4, 5, 6, 7], 8)] [9] (by kernel_rfl) (by kernel_rfl) ?_
            simp only [selSt, sel, List.map_cons, List.map_nil, List.getD_cons_succ, List.getD_cons_zero]
            refine st_cons fun K1 hK1 => ?_
            repeat (go_big_quiet_step (fail))
            refine wpQuiet_nil ?_
            clear u0 u1 u2 u3 u4 u5 u6 u7 u8 u9 u10 u11 u12 u13 v0 v1 v2 uo hbq hqq
            go_wp2_with (go_at_call 31; (with_reducible refine CS.out.mono ?_); rintro e ws ⟨bs, rfl, hb0, hb1, hks⟩; have HB0 := Lib.hid hb0; have HB1 := Lib.hid hb1; have HKS := Lib.hid hks; clear hb0 hb1 hks)
            refine norm_up (hK1 _ _ HKS.out (st_nil fun K2 hK2 => ?_))
            repeat (go_big_quiet_step (fail))
            refine wpQuiet_nil (hK2 _ ?_)
            clear hK1 K1 hK2 K2
            cases bs with
            | true =>
              obtain ⟨a', hst, hsat⟩ := HB1.out rfl
              have HST := Lib.hid hst
              have HSAT := Lib.hid hsat
              clear hst hsat
              go_wp2
              go_roundg (gk - 1)
              case measure => have := HG.out; have := HK.out; omega
              case rel => exact ⟨k + 1, a', by have := HG.out; have := HK.out; omega, by go_num, HSAT.out, (HKP.out.trans (Grow.kept (Kept.drew' wr))).trans HKS.out, by rw [HDR.out, runL_some HST.out]⟩
            | false =>
              have HST := Lib.hid (HB0.out rfl)
              have HKW : Hid (Kept (fun k => s ≤ k ∧ k < q) w3 ws) := (HKP.out.trans (Grow.kept (Kept.drew' wr))).trans HKS.out
              have o1 := HKW.out.cellN HO1.out HOBQ.out
              go_wp2
              go_ret
              exact ⟨_, rfl, .inr ⟨HOKN.out, .inr ⟨.inl ⟨rfl, HOK.out⟩, l, HO.out, by rw [HDR.out, runL_stop HST.out]⟩⟩, HG3.out.then HKW.out fun k hk h => by have := HSQ.out; omega⟩
          · have hkl : k = l.length := by have := HG.out; omega
            subst hkl
            clear hk
            have HKW : Hid (Kept (fun k => s ≤ k ∧ k < q) w3 wr) := HKP.out
            go_wp2
            go_ret
            exact ⟨0, rfl, .inr ⟨HOKN.out, .inr ⟨.inl ⟨rfl, HOK.out⟩, l, HO.out, by rw [HRUN.out, List.drop_length, runL_nil]⟩⟩, HG3.out.then HKW.out fun k hk h => by have := HSQ.out; omega⟩
  · have HNO := Lib.hid hok
    have CN := Lib.hid (fun wx => rnew_bad p N wx hok)
    clear hok
    go_enter Try.func18, Try.ntmps18
    go_upto_region 2 with (go_at_call 30; (with_reducible refine (CN.out _).mono ?_); rintro e w1 ⟨rfl, hg⟩; have HG1 := Lib.hid hg; clear hg)
    obtain ⟨hbx, hg2⟩ := s_box w1 (.slice none 0 0) (.slice none 0 0) (.slice none 0 0)
    generalize w1.alloc (.cells #[.slice none 0 0, .slice none 0 0, .slice none 0 0] 44) = w2 at hbx hg2 ⊢
    generalize w1.heap.size = q at hbx ⊢
    have HG2 : Hid (Grow w w2) := HG1.out.trans hg2
    have t0 := hbx.cell 0
    simp only [List.getElem?_cons_zero] at t0
    clear hbx hg2
    go_wp2
    go_ret
    exact ⟨-1, rfl, .inl ⟨HNO.out, rfl⟩, HG2.out⟩
theorem zero_S (w : World) : Blk (w.alloc (.cells #[.slice none 0 0, .slice none 0 0, .slice none 0 0] 44)) w.heap.size 44 [.slice none 0 0, .slice none 0 0, .slice none 0 0] ∧ Grow w (w.alloc (.cells #[.slice none 0 0, .slice none 0 0, .slice none 0 0] 44)) := ⟨Blk.new w _ _, (Kept.refl _ _).alloc _⟩
set_option maxHeartbeats 16000000 in
set_option maxRecDepth 100000 in
theorem rfinal_any (h : EvsAt w X A n L) (hn : n ≤ 100000) (p N : Int) (c : Nat) : Calls Try.prog 14 #[.slice A n c, .int .i64 p, .int .i64 N] w (RFinP L n p N w) := by
  have hnz : (n : Int) ≤ 100000 := by omega
  have HE := Lib.hid (h.mono (Y := fun k => k < w.heap.size) fun k hk _ => hk)
  obtain ⟨hz, hg⟩ := zero_S w
  have HZ := Lib.hid hz
  have HG0 := Lib.hid hg
  have CC := Lib.hid (rcheck_any (h.grow hg) hn p N c)
  clear h hz hg
  go_enter Try.func14, Try.ntmps14
  go_upto_region 1 with (fail)
  generalize w.alloc (.cells #[.slice none 0 0, .slice none 0 0, .slice none 0 0] 44) = w0 at *
  obtain ⟨m, hm⟩ : ∃ m, m = w.heap.size := ⟨_, rfl⟩
  rw [← hm] at HZ ⊢
  have HM := Lib.hid hm
  clear hm
  by_cases hf : ¬ ∃ a, Fin L n p N a
  · have HF := Lib.hid hf
    clear hf
    go_upto_region 2 with (go_at_call 18; (with_reducible refine CC.out.mono ?_); rintro e w1 ⟨r, rfl, hr, hg⟩; have HR := Lib.hid hr; have HG1 := Lib.hid hg; have hr0 : ¬ r = 0 := (fun h => HF.out ((fin_iff hr).1 h)); have hr1 : (r != 0) = true := (by simpa using hr0); clear hr hg hr0)
    have HZ1 := Lib.hid (HZ.out.grow HG1.out)
    have z0 := HZ1.out.cell 0
    have z1 := HZ1.out.cell 1
    have z2 := HZ1.out.cell 2
    have zf := HZ1.out.frozenAll
    simp only [List.getElem?_cons_zero, List.getElem?_cons_succ] at z0 z1 z2
    go_wp2
    refine ret_S2 rfl rfl (PmD.put3_blk HZ1.out) rfl ?_
    have hk3 := PmD.put3_kept (F := fun k => k = m) w1 m (.slice none 0 0) (.slice none 0 0) (.slice none 0 0) fun k e => e
    exact ⟨_, _, _, _, _, _, _, _, _, false, rfl, ⟨fun h => Bool.noConfusion h, fun h => absurd h HF.out⟩, fun a ha => absurd ⟨a, ha⟩ HF.out, (HG0.out.trans HG1.out).then hk3 fun k hk e => by have := HM.out; omega⟩
  obtain ⟨aF, haF⟩ := Classical.byContradiction hf
  have HFA := Lib.hid haF
  obtain ⟨hok, hfst, _⟩ := haF
  have hok' := hok
  obtain ⟨⟨h1, h2⟩, h3, h4⟩ := hok'
  obtain ⟨pn, rfl⟩ := Int.eq_ofNat_of_zero_le (show 0 ≤ p by omega)
  obtain ⟨Nn, rfl⟩ := Int.eq_ofNat_of_zero_le (show 0 ≤ N by omega)
  have HOKN := Lib.hid hok
  have HOK : Hid (∀ k, k < n → okAt L (Nn : Int) k) := by
    rcases hfst with ⟨_, h⟩ | ⟨i, hi, e, _⟩
    · exact h
    · omega
  have CN := Lib.hid (fun wx => rnew_any pn Nn (by omega) (by omega) (by omega) (by omega) wx)
  clear hok h1 h2 h3 h4 hf hfst
  go_upto_region 3 with (go_at_call 18; (with_reducible refine CC.out.mono ?_); rintro e wc ⟨r, rfl, hr, hg⟩; have HGC := Lib.hid hg; obtain rfl : r = 0 := (fin_iff hr).2 ⟨aF, HFA.out⟩; clear hr hg)
  have HGB : Hid (Grow w wc) := HG0.out.trans HGC.out
  obtain ⟨s, hs⟩ : ∃ s, s = wc.heap.size := ⟨_, rfl⟩
  have HSC := Lib.hid hs
  have HSQ : Hid (w.heap.size < s) := by have h1 := HZ.out.lt; have h2 := HGC.out.size; have h3 := HM.out; show w.heap.size < s; omega
  clear hs CC
  go_upto_region 4 with (go_at_call 30; (with_reducible refine (CN.out _).mono ?_); rintro e w1 ⟨v, rfl, hsa, hg⟩; have HSA0 := Lib.hid hsa; have HG1 := Lib.hid hg; obtain ⟨X1, c1, X2, c2, X3, c3, rfl⟩ := fresh_form hsa; clear hsa hg)
  obtain ⟨hbx, hg2⟩ := s_box w1 (.slice X1 pn c1) (.slice X2 pn c2) (.slice X3 Nn c3)
  generalize w1.alloc (.cells #[.slice X1 pn c1, .slice X2 pn c2, .slice X3 Nn c3] 44) = w2 at hbx hg2 ⊢
  obtain ⟨q, hq⟩ : ∃ q, q = w1.heap.size := ⟨_, rfl⟩
  have HSA2 : Hid (SAt w2 (fun k => s ≤ k ∧ k < q) (.agg #[.slice X1 pn c1, .slice X2 pn c2, .slice X3 Nn c3]) (fresh pn Nn)) := (HSA0.out.mono fun k hk (hk2 : wc.heap.size ≤ k) => ⟨by have := HSC.out; omega, by omega⟩).grow hg2
  rw [← hq] at hbx ⊢
  have HG2 : Hid (Grow w w2) := (HGB.out.trans HG1.out).trans hg2
  have HBX2 := Lib.hid hbx
  have HQ2 : Hid (s ≤ q ∧ q < w2.heap.size) := ⟨by have := HSC.out; have := HG1.out.size; omega, hbx.lt⟩
  have HZ2 := Lib.hid (((HZ.out.grow HGC.out).grow HG1.out).grow hg2)
  clear hbx hg2 hq HSA0 CN
  have CO := Lib.hid (rorder_any (HE.out.grow HG2.out) hn c)
  obtain ⟨w2', hw2⟩ : ∃ w2', w2' = w2 := ⟨_, rfl⟩
  subst hw2
  have HQ : Hid (q < w2'.heap.size) := HQ2.out.2
  go_wp2_with (go_at_call 17; (with_reducible refine CO.out.mono ?_); rintro e w3 ⟨l, OA, oc, rfl, ho, hsl, hnew, hg⟩; have HO := Lib.hid ho; have HSL := Lib.hid hsl; have HNW := Lib.hid hnew; have HGO := Lib.hid hg; clear ho hsl hnew hg)
  have HG3 : Hid (Grow w w3) := HG2.out.trans HGO.out
  have HSA3 := Lib.hid (HSA2.out.grow HGO.out)
  have HBX := Lib.hid (HBX2.out.grow HGO.out)
  have HZ3 := Lib.hid (HZ2.out.grow HGO.out)
  have HFN : Hid (runL L l (fresh' (pn : Int) (Nn : Int)) = (0, aF)) := by
    obtain ⟨_, _, l', hl', hr⟩ := HFA.out
    rw [ord_unique HO.out hl']
    exact hr
  have hlz : (l.length : Int) ≤ 100000 := by have := ord_len HO.out; omega
  go_loopg [10] l.length (RcLoop L l (fresh' (pn : Int) (Nn : Int)) (fun k => s ≤ k ∧ k < q) (.agg #[.slice X1 pn c1, .slice X2 pn c2, .slice X3 Nn c3]) w3)
  case atStart => exact ⟨0, _, by omega, rfl, HSA3.out, Kept.refl _ _, by rw [List.drop_zero]; rfl⟩
  case round =>
    obtain ⟨k, a, hg, rfl, hsa, hkp, hrun⟩ := hrel
    have HG := Lib.hid hg
    have HSA := Lib.hid hsa
    have HKP := Lib.hid hkp
    have HRUN := Lib.hid hrun
    clear hg hsa hkp hrun
    by_cases hk : k < l.length
    · have hkz : (k : Int) < (l.length : Int) := by omega
      have HK := Lib.hid hk
      obtain ⟨hdr, him⟩ := drop_at hk
      obtain ⟨ob, oo, rfl, hob, hoc⟩ := HSL.out.at_ (by omega)
      have hobq : ¬ (s ≤ ob ∧ ob < q) := by have h1 := HNW.out (by omega) _ rfl; have h2 := HQ.out; intro h3; have h1 : w2'.heap.size ≤ ob := h1; omega
      have HOBQ := Lib.hid hobq
      have HO1 := Lib.hid (hoc k hk)
      rw [nums_get] at HO1
      have o1 := HKP.out.cellN HO1.out hobq
      generalize l.getD k 0 = i at *
      have hin := (ord_lt HO.out him).1
      have hinz : (i : Int) < (n : Int) := by omega
      have HDR : Hid (runL L l (fresh' (pn : Int) (Nn : Int)) = runL L (i :: l.drop (k + 1)) a) := by unfold Hid; rw [HRUN.out, hdr]
      have HEI : Hid (0 ≤ (L i).e) := ok_end (HOK.out i hin)
      obtain ⟨b, off, rfl, hall⟩ := HE.out (by omega)
      have hbs : b < w.heap.size := (hall i hin).lt
      obtain ⟨D, dl, dc, A', al, ac, hc, hd⟩ := ((hall i hin).kept HG3.out id (fun _ _ _ => id)).kept HKP.out (fun h => by have := HSQ.out; omega) (fun k _ hx h => by have := HSQ.out; omega)
      have c0 := hc 0 _ rfl
      have c1 := hc 1 _ rfl
      have c2 := hc 2 _ rfl
      have c3 := hc 3 _ rfl
      have c4 := hc 4 _ rfl
      have c5 := hc 5 _ rfl
      have c6 := hc 6 _ rfl
      have c7 := hc 7 _ rfl
      have c8 := hc 8 _ rfl
      have c9 := hc 9 _ rfl
      have c10 := hc 10 _ rfl
      have c11 := hc 11 _ rfl
      have c12 := hc 12 _ rfl
      have c13 := hc 13 _ rfl
      simp only [Nat.add_zero] at c0
      have HD := Lib.hid hd
      have hqb := HBX.out.kept HKP.out (fun h => by omega)
      have t0 := hqb.cell 0
      have t1 := hqb.cell 1
      have t2 := hqb.cell 2
      simp only [List.getElem?_cons_zero, List.getElem?_cons_succ] at t0 t1 t2
      have HSZ : Hid (q ≤ wr.heap.size) := Nat.le_trans (Nat.le_of_lt HBX.out.lt) HKP.out.size
      have CS := Lib.hid (step_any (HSA.out.grow (Kept.drew' wr)) (fun k hk => Nat.lt_of_lt_of_le hk.2 HSZ.out) (HD.out.kept (Kept.drew' (F := fun _ => False) wr) fun _ _ _ => id) (fun k _ hx h => by have := HSQ.out; omega) HEI.out)
      have hbq : ¬ (s ≤ b ∧ b < q) := fun h => by have := HSQ.out; omega
      have hqq : ¬ (s ≤ q ∧ q < q) := fun h => by omega
      have u0 := up_cell (F := fun k => s ≤ k ∧ k < q) (w := wr.drew) c0 hbq
      have u1 := up_cell (F := fun k => s ≤ k ∧ k < q) (w := wr.drew) c1 hbq
      have u2 := up_cell (F := fun k => s ≤ k ∧ k < q) (w := wr.drew) c2 hbq
      have u3 := up_cell (F := fun k => s ≤ k ∧ k < q) (w := wr.drew) c3 hbq
      have u4 := up_cell (F := fun k => s ≤ k ∧ k < q) (w := wr.drew) c4 hbq
      have u5 := up_cell (F := fun k => s ≤ k ∧ k < q) (w := wr.drew) c5 hbq
      have u6 := up_cell (F := fun k => s ≤ k ∧ k < q) (w := wr.drew) c6 hbq
      have u7 := up_cell (F := fun k => s ≤ k ∧ k < q) (w := wr.drew) c7 hbq
      have u8 := up_cell (F := fun k => s ≤ k ∧ k < q) (w := wr.drew) c8 hbq
      have u9 := up_cell (F := fun k => s ≤ k ∧ k < q) (w := wr.drew) c9 hbq
      have u10 := up_cell (F := fun k => s ≤ k ∧ k < q) (w := wr.drew) c10 hbq
      have u11 := up_cell (F := fun k => s ≤ k ∧ k < q) (w := wr.drew) c11 hbq
      have u12 := up_cell (F := fun k => s ≤ k ∧ k < q) (w := wr.drew) c12 hbq
      have u13 := up_cell (F := fun k => s ≤ k ∧ k < q) (w := wr.drew) c13 hbq
      have v0 := up_cell (F := fun k => s ≤ k ∧ k < q) (w := wr.drew) t0 hqq
      have v1 := up_cell (F := fun k => s ≤ k ∧ k < q) (w := wr.drew) t1 hqq
      have v2 := up_cell (F := fun k => s ≤ k ∧ k < q) (w := wr.drew) t2 hqq
      have uo := up_cell (F := fun k => s ≤ k ∧ k < q) (w := wr.drew) o1 hobq
      clear hc hd hall hk hdr him hoc hob hqb c0 c1 c2 c3 c4 c5 c6 c7 c8 c9 c10 c11 c12 c13 t0 t1 t2 o1
      go_upto_region 8 with (fail)
      refine wp_region_stages (Kept fun k => s ≤ k ∧ k < q) (kept_refl _) (kept_trans _) [([0, 1, 2, 3, 4, 5, 6, 7], 8)] [] (by kernel_rfl) (by kernel_rfl) ?_
      simp only [selSt, sel, List.map_cons, List.map_nil, List.getD_cons_succ, List.getD_cons_zero]
      refine st_cons fun K1 hK1 => ?_
      repeat (go_big_quiet_step (fail))
      refine wpQuiet_nil ?_
      clear u0 u1 u2 u3 u4 u5 u6 u7 u8 u9 u10 u11 u12 u13 v0 v1 v2 uo hbq hqq
      go_wp2_with (go_at_call 31; (with_reducible refine CS.out.mono ?_); rintro e ws ⟨bs, rfl, hb0, hb1, hks⟩; have HB0 := Lib.hid hb0; have HB1 := Lib.hid hb1; have HKS := Lib.hid hks; clear hb0 hb1 hks)
      refine norm_up (hK1 _ _ HKS.out (st_nil fun K2 hK2 => ?_))
      refine wpQuiet_nil (hK2 _ ?_)
      clear hK1 K1 hK2 K2
      obtain rfl : bs = true := by
        cases bs with
        | true => rfl
        | false =>
          have h1 := HFN.out
          rw [HDR.out, runL_stop (HB0.out rfl)] at h1
          injection h1 with h1 _
          omega
      obtain ⟨a', hst, hsat⟩ := HB1.out rfl
      have HST := Lib.hid hst
      have HSAT := Lib.hid hsat
      clear hst hsat
      go_wp2
      go_roundg (gk - 1)
      case measure => have := HG.out; have := HK.out; omega
      case rel => exact ⟨k + 1, a', by have := HG.out; have := HK.out; omega, by go_num, HSAT.out, (HKP.out.trans (Grow.kept (Kept.drew' wr))).trans HKS.out, by rw [HDR.out, runL_some HST.out]⟩
    · have hkl : k = l.length := by have := HG.out; omega
      subst hkl
      clear hk
      have hqb := HBX.out.kept HKP.out (fun h => by omega)
      have hzb := HZ3.out.kept HKP.out (fun h => by have := HSQ.out; have := HM.out; omega)
      have HZB := Lib.hid hzb
      have t0 := hqb.cell 0
      have t1 := hqb.cell 1
      have t2 := hqb.cell 2
      have z0 := hzb.cell 0
      have z1 := hzb.cell 1
      have z2 := hzb.cell 2
      have zf := hzb.frozenAll
      simp only [List.getElem?_cons_zero, List.getElem?_cons_succ] at t0 t1 t2 z0 z1 z2
      clear hqb hzb
      have HAF : Hid (a = aF) := by
        have h1 := HFN.out
        rw [HRUN.out, List.drop_length, runL_nil] at h1
        injection h1 with _ h1
      go_wp2
      refine ret_S2 rfl rfl (PmD.put3_blk HZB.out) rfl ?_
      have hk3 := PmD.put3_kept (F := fun k => k = m) wr m (.slice X1 pn c1) (.slice X2 pn c2) (.slice X3 Nn c3) fun k e => e
      refine ⟨_, _, _, _, _, _, _, _, _, true, rfl, ⟨fun _ => ⟨aF, HFA.out⟩, fun _ => rfl⟩, fun a' ha' => ?_, (HG3.out.then HKP.out fun k hk h => by have := HSQ.out; omega).then hk3 fun k hk e => by have := HM.out; omega⟩
      rw [fin_unique ha' HFA.out, ← HAF.out]
      exact (HSA.out.kept hk3 fun k hk e => by have := HSQ.out; have := HM.out; omega).mono fun k _ hk => by have := HSQ.out; show w.heap.size ≤ k; omega
end
#print axioms rfinal_any
end Go.Proofs.Ytjdlpknflhgkfaa.HsRC
namespace Go.Proofs.Ytjdlpknflhgkfaa.MdI
open Go.ChangeShapes Go.WideShapes Go.ChangeAt Go.RowKit
open Go.Proofs.Ytjdlpknflhgkfaa.Mem Go.Proofs.Ytjdlpknflhgkfaa.Blk Go.Proofs.Ytjdlpknflhgkfaa.Cells Go.Proofs.Ytjdlpknflhgkfaa.Orow Go.Proofs.Ytjdlpknflhgkfaa.GrC Go.Proofs.Ytjdlpknflhgkfaa.MdM Go.Proofs.Ytjdlpknflhgkfaa.MdC Go.Proofs.Ytjdlpknflhgkfaa.PmC Go.Proofs.Ytjdlpknflhgkfaa.PmM Go.Proofs.Ytjdlpknflhgkfaa.IntsC Go.Proofs.Ytjdlpknflhgkfaa.Stages

section
variable {w w' : World} {G : Nat → Prop} {x v : Value} {a : Md}
set_option maxHeartbeats 4000000 in
theorem is_true (h : SAt w G x a) (hs : Seen w v (stOf a)) : Calls Try.prog 19 #[x, v] w fun e w' => e = .returned (.bool true) ∧ Grow w w' := by
  have hgd := h.good
  obtain ⟨gT, cT, gB, cB, gH, cH, q, cp, rfl, hm⟩ := h.mem
  obtain ⟨AT, kT, AB, kB, AH, kH, rfl, hp⟩ := hs
  unfold sval stv
  show Calls Try.prog 19 #[.agg #[.slice (some ⟨gT, 0, none⟩) a.n cT, .slice (some ⟨gB, 0, none⟩) a.n cB, .slice (some ⟨gH, 0, none⟩) a.N cH], .agg #[.slice AT a.n kT, .slice AB a.n kB, .slice AH a.N kH]] w _
  have hb := Blk.new w 44 [.slice (some ⟨gT, 0, none⟩) a.n cT, .slice (some ⟨gB, 0, none⟩) a.n cB, .slice (some ⟨gH, 0, none⟩) a.N cH]
  have hg : Grow w (w.alloc (.cells #[.slice (some ⟨gT, 0, none⟩) a.n cT, .slice (some ⟨gB, 0, none⟩) a.n cB, .slice (some ⟨gH, 0, none⟩) a.N cH] 44)) := (Kept.refl _ _).alloc _
  have hz : (w.alloc (.cells #[.slice (some ⟨gT, 0, none⟩) a.n cT, .slice (some ⟨gB, 0, none⟩) a.n cB, .slice (some ⟨gH, 0, none⟩) a.N cH] 44)).heap.size = w.heap.size + 1 := by simp
  have hb2 := Blk.new (w.alloc (.cells #[.slice (some ⟨gT, 0, none⟩) a.n cT, .slice (some ⟨gB, 0, none⟩) a.n cB, .slice (some ⟨gH, 0, none⟩) a.N cH] 44)) 39 [.slice AT a.n kT, .slice AB a.n kB, .slice AH a.N kH]
  have hg2 : Grow (w.alloc (.cells #[.slice (some ⟨gT, 0, none⟩) a.n cT, .slice (some ⟨gB, 0, none⟩) a.n cB, .slice (some ⟨gH, 0, none⟩) a.N cH] 44)) ((w.alloc (.cells #[.slice (some ⟨gT, 0, none⟩) a.n cT, .slice (some ⟨gB, 0, none⟩) a.n cB, .slice (some ⟨gH, 0, none⟩) a.N cH] 44)).alloc (.cells #[.slice AT a.n kT, .slice AB a.n kB, .slice AH a.N kH] 39)) := (Kept.refl _ _).alloc _
  rw [hz] at hb2
  have HB := Lib.hid (hb.grow hg2)
  have HB2 := Lib.hid hb2
  have HG0 := Lib.hid (hg.trans hg2)
  have HM := Lib.hid (hm.kept HG0.out fun _ _ x => x)
  obtain ⟨tb, to', te, ht⟩ := flags_form (hp.T.grow HG0.out)
  obtain ⟨bb, bo, be, hbr⟩ := lists_form (hp.B.grow HG0.out)
  obtain ⟨hb', ho, he, hhr⟩ := lists_form (hp.H.grow HG0.out)
  obtain rfl := te (by have := hgd.n; show 0 < a.n; omega)
  obtain rfl := be (by have := hgd.n; show 0 < a.n; omega)
  obtain rfl := he (by have := hgd.N; show 0 < a.N; omega)
  have HT := Lib.hid ht
  have HBR := Lib.hid hbr
  have HHR := Lib.hid hhr
  have HGD := Lib.hid hgd
  have hnz : (a.n : Int) ≤ 48 := by have := hgd.n; omega
  have hNz : (a.N : Int) ≤ 6 := by have := hgd.N; omega
  clear hb hg hz hb2 hg2 hm hp ht hbr hhr te be he h hgd
  go_enter Try.func19, Try.ntmps19
  go_upto_region 1 with (fail)
  generalize (w.alloc (.cells #[.slice (some ⟨gT, 0, none⟩) a.n cT, .slice (some ⟨gB, 0, none⟩) a.n cB, .slice (some ⟨gH, 0, none⟩) a.N cH] 44)).alloc (.cells #[.slice (some ⟨tb, to', none⟩) a.n kT, .slice (some ⟨bb, bo, none⟩) a.n kB, .slice (some ⟨hb', ho, none⟩) a.N kH] 39) = w0 at *
  generalize w.heap.size = s at HB HB2 ⊢
  have x0 := HB.out.cell 0
  have x1 := HB.out.cell 1
  have x2 := HB.out.cell 2
  have y0 := HB2.out.cell 0
  have y1 := HB2.out.cell 1
  have y2 := HB2.out.cell 2
  simp only [List.getElem?_cons_zero, List.getElem?_cons_succ] at x0 x1 x2 y0 y1 y2
  go_wp2
  clear x0 x1 x2 y0 y1 y2
  go_loopg [5] a.n (fun gx i wr => ∃ j : Nat, j + gx = a.n ∧ i = .int .i64 (j : Int) ∧ Grow w0 wr)
  case atStart => exact ⟨0, by omega, rfl, Kept.refl _ _⟩
  case round =>
    obtain ⟨j, hg, rfl, hgr⟩ := hrel
    have HG := Lib.hid hg
    have HGR := Lib.hid hgr
    clear hg hgr
    have x0 := (HB.out.grow HGR.out).cell 0
    have x1 := (HB.out.grow HGR.out).cell 1
    have y0 := (HB2.out.grow HGR.out).cell 0
    have y1 := (HB2.out.grow HGR.out).cell 1
    simp only [List.getElem?_cons_zero, List.getElem?_cons_succ] at x0 x1 y0 y1
    by_cases hj : j < a.n
    · have hjz : (j : Int) < (a.n : Int) := by omega
      have HJ := Lib.hid hj
      have t1 := HGR.out.cellN (HT.out j hj) id
      obtain ⟨A', c', hcb, hsl⟩ := HBR.out j hj
      have e16 : ((stOf a).B j).length = 16 := HGD.out.len j
      rw [e16] at hcb hsl
      have hcb := HGR.out.cellN hcb id
      have d1 := HGR.out.cellN (HM.out.tb.cell (i := j) (by omega)) id
      have d2 := HGR.out.cellN (HM.out.bb.cell (i := j) (by omega)) id
      unfold tcell at d1
      unfold bcell at d2
      have hsl := sl_grow hsl HGR.out
      have q0 := up_cell (F := fun _ => False) (w := wr.drew) x0 id
      have q1 := up_cell (F := fun _ => False) (w := wr.drew) x1 id
      have q2 := up_cell (F := fun _ => False) (w := wr.drew) y0 id
      have q3 := up_cell (F := fun _ => False) (w := wr.drew) y1 id
      have q4 := up_cell (F := fun _ => False) (w := wr.drew) t1 id
      have q5 := up_cell (F := fun _ => False) (w := wr.drew) hcb id
      have q6 := up_cell (F := fun _ => False) (w := wr.drew) d1 id
      have q7 := up_cell (F := fun _ => False) (w := wr.drew) d2 id
      have HSL := Lib.hid (sl_grow hsl (Kept.drew' wr (F := fun _ => False)))
      have q8 := up_run (F := fun _ => False) (P := Try.prog) (w := wr.drew) fun w' hk => (sl_grow HSL.out hk).str 23 9 5 Try.underlying23 Try.underlying5 Try.underlying9 c'
      replace q4 : ∀ u : Up (Kept fun _ => False) wr.drew, u.u.cell? ⟨tb, to' + j, none⟩ = some (.bool (a.T j)) := q4
      replace q8 : ∀ u : Up (Kept fun _ => False) wr.drew, (convert 23 9 (.slice A' 16 c')).run Try.prog u.u = .ok (.string (strOfNums (a.B j))) u.u := q8
      generalize strOfNums (a.B j) = sx at q7 q8
      generalize a.T j = bx at q4 q6
      have hbb : (bx != bx) = false := by simp
      have hss : (sx.toList != sx.toList) = false := by simp
      have hst : (sx.toList == sx.toList) = true := by simp
      clear t1 hcb d1 d2 hj hsl e16
      go_upto_region 6 with (fail)
      clear x0 x1 y0 y1
      refine wp_region_stages Grow (kept_refl _) (kept_trans _) [] [0, 1, 2, 3, 4, 5, 6, 7, 8, 9, 10, 11, 12, 13, 14, 15, 16, 17, 18, 19, 20, 21, 22, 23, 24] (by kernel_rfl) (by kernel_rfl) ?_
      simp only [selSt, sel, List.map_cons, List.map_nil, List.getD_cons_succ, List.getD_cons_zero]
      refine st_nil fun K2 hK2 => ?_
      repeat (go_big_quiet_step (fail))
      refine wpQuiet_nil (hK2 _ ?_)
      clear hK2 K2 q0 q1 q2 q3 q4 q5 q6 q7 q8 hbb hss hst
      go_wp2
      go_roundg (gk - 1)
      case measure => have := HG.out; have := HJ.out; omega
      case rel => exact ⟨j + 1, by have := HG.out; have := HJ.out; omega, by go_num, HGR.out.drew⟩
    · obtain rfl : j = a.n := by have := HG.out; omega
      clear hj
      go_wp2
      clear x0 x1 y0 y1
      obtain ⟨wq, rfl⟩ : ∃ wq, wq = wr := ⟨_, rfl⟩
      have x2 := (HB.out.grow HGR.out).cell 2
      simp only [List.getElem?_cons_zero, List.getElem?_cons_succ] at x2
      go_loopg [6] a.N (fun gx i wr => ∃ j : Nat, j + gx = a.N ∧ i = .int .i64 (j : Int) ∧ Grow w0 wr)
      case atStart => exact ⟨0, by omega, rfl, HGR.out⟩
      case round =>
        obtain ⟨j, hg, rfl, hgr⟩ := hrel
        have HG := Lib.hid hg
        have HGR := Lib.hid hgr
        clear hg hgr
        have x2 := (HB.out.grow HGR.out).cell 2
        have y2 := (HB2.out.grow HGR.out).cell 2
        simp only [List.getElem?_cons_zero, List.getElem?_cons_succ] at x2 y2
        by_cases hj : j < a.N
        · have hjz : (j : Int) < (a.N : Int) := by omega
          have HJ := Lib.hid hj
          obtain ⟨A', c', hch, hsl⟩ := HHR.out j hj
          have e6 : ((stOf a).H j).length = 6 := six_len _
          rw [e6] at hch hsl
          have hch := HGR.out.cellN hch id
          have d2 := HGR.out.cellN (HM.out.hb.cell (i := j) (by omega)) id
          unfold scell at d2
          have HS1 := Lib.hid (sl_grow hsl HGR.out)
          have HS2 := Lib.hid (six_sl ((HM.out.rb j hj).kept HGR.out id))
          have q0 := up_cell (F := fun _ => False) (w := wr.drew) x2 id
          have q1 := up_cell (F := fun _ => False) (w := wr.drew) y2 id
          have q2 := up_cell (F := fun _ => False) (w := wr.drew) hch id
          have q3 := up_cell (F := fun _ => False) (w := wr.drew) d2 id
          clear hch d2 hsl e6 hj
          go_upto_region 11 with (fail)
          clear x2 y2
          refine wp_region_stages Grow (kept_refl _) (kept_trans _) [([0, 1, 2, 3, 4, 5, 6, 7, 8, 9], 10)] [11] (by kernel_rfl) (by kernel_rfl) ?_
          simp only [selSt, sel, List.map_cons, List.map_nil, List.getD_cons_succ, List.getD_cons_zero]
          refine st_cons fun K1 hK1 => ?_
          repeat (go_big_quiet_step (fail))
          refine wpQuiet_nil ?_
          clear q0 q1 q2 q3
          have HI : Hid (Calls Try.prog 15 #[.slice A' 6 c', .slice (some ⟨q j, 0, none⟩) 6 (cp j)] wr.drew fun e w' => e = .returned (.bool true) ∧ Grow wr.drew w') := ints_true _ _ 6 c' (cp j) _ _ (six (a.H j)) (by omega) (sl_grow HS1.out (Kept.drew' wr)) (sl_grow HS2.out (Kept.drew' wr))
          go_wp2_with (go_at_call 15; (with_reducible refine HI.out.mono ?_); rintro e wi ⟨rfl, hgi⟩; have HGI := Lib.hid hgi; clear hgi)
          refine norm_up (hK1 _ _ HGI.out (st_nil fun K2 hK2 => ?_))
          clear hK1 K1
          repeat (go_big_quiet_step (fail))
          refine wpQuiet_nil (hK2 _ ?_)
          clear hK2 K2
          go_wp2
          go_roundg (gk - 1)
          case measure => have := HG.out; have := HJ.out; omega
          case rel => exact ⟨j + 1, by have := HG.out; have := HJ.out; omega, by go_num, HGR.out.drew.trans HGI.out⟩
        · obtain rfl : j = a.N := by have := HG.out; omega
          clear hj
          go_wp2
          go_ret
          exact ⟨rfl, HG0.out.trans HGR.out⟩
end
end Go.Proofs.Ytjdlpknflhgkfaa.MdI
namespace Go.Proofs.Ytjdlpknflhgkfaa.Args13
open Go.ChangeShapes Go.WideShapes Go.ChangeAt Go.RowKit Go.Deep
open Go.Proofs.Ytjdlpknflhgkfaa.Mem Go.Proofs.Ytjdlpknflhgkfaa.Blk Go.Proofs.Ytjdlpknflhgkfaa.MdM Go.Proofs.Ytjdlpknflhgkfaa.PmC Go.Proofs.Ytjdlpknflhgkfaa.Calls13

section
variable {H : Type} {enc : TypeId × Value → H} {w : World} {base : Nat} {spare : Nat → Bool} {held : Bool}
theorem plain_spot {a : Addr} {v : Value} (h : w.cell? a = some v) : ∃ b off, a = ⟨b, off, none⟩ := by
  obtain ⟨b, off, spot⟩ := a
  have hspot : spot = none := by simpa [Addr.add] using World.cell?_spot h
  subst hspot
  exact ⟨b, off, rfl⟩
theorem add_plain (b off q : Nat) : (⟨b, off, none⟩ : Addr).add q = ⟨b, off + q, none⟩ := by unfold Addr.add; split <;> simp_all
theorem add_zero (a : Addr) : a.add 0 = a := by unfold Addr.add; simp
theorem ints_open {A : Option Addr} {len cap fuel : Nat} {x : DataW H × List MemPlace} (h : DataW.trod enc Try.prog w base spare held fuel 48 [.slice A len cap] = some x) : ∃ d, Sl w w.heap.size .i64 A len d := by
  have hc1 : Try.prog.cellsOf 3 = 1 := by kernel_rfl
  rcases open_slice1 Try.underlying48 hc1 h with ⟨h0, _⟩ | ⟨a, l, c, m, n, V, D, Pl, hcs, _, hl, hm, hmm, _, hi⟩
  · simp at h0
    obtain ⟨rfl, rfl, rfl⟩ := h0
    exact ⟨[], Sl.nil _ _ _ _⟩
  · simp at hcs
    obtain ⟨rfl, rfl, rfl⟩ := hcs
    have hlm : len ≤ m := by rw [hmm]; split <;> omega
    have key : ∀ i, i < len → V i = .int .i64 (num (V i)) := fun i hil => by
      obtain ⟨_, ht⟩ := hi i (by omega)
      obtain ⟨z, e, _, _⟩ := DataW.trod_int Try.underlying3 ht
      simp at e
      rw [e]
      rfl
    refine ⟨(List.range len).map fun i => num (V i), ⟨by simp, fun h0 => ?_⟩⟩
    have a0 := (hi 0 (by omega)).1
    rw [add_zero] at a0
    obtain ⟨b, off, rfl⟩ := plain_spot a0
    refine ⟨b, off, rfl, block_lt_of_cell a0, fun j hj => ?_⟩
    have aj := (hi j (by omega)).1
    rw [add_plain] at aj
    rw [aj, key j hj]
    simp [List.getD_eq_getElem?_getD, hj]
theorem slice_form {t e : TypeId} {v : Value} {fuel : Nat} {x : DataW H × List MemPlace} (ht : Try.prog.underlying t = some (.slice e)) (h : DataW.trod enc Try.prog w base spare held fuel t [v] = some x) : ∃ A l c, v = .slice A l c := by
  rcases open_slice ht h with ⟨h0, _⟩ | ⟨a, l, c, m, n, D, Pl, hcs, _⟩
  · simp at h0; exact ⟨_, _, _, h0⟩
  · simp at hcs; exact ⟨_, _, _, hcs⟩
theorem flags_open {v : Value} {fuel : Nat} {x : DataW H × List MemPlace} (h : DataW.trod enc Try.prog w base spare held fuel 35 [v] = some x) : ∃ A len cap T, v = .slice A len cap ∧ Flags w A len T := by
  have hc1 : Try.prog.cellsOf 4 = 1 := by kernel_rfl
  rcases open_slice1 Try.underlying35 hc1 h with ⟨h0, _⟩ | ⟨a, l, c, m, n, V, D, Pl, hcs, _, hl, hm, hmm, _, hi⟩
  · simp at h0
    exact ⟨none, 0, 0, fun _ => false, h0, fun h => absurd h (Nat.lt_irrefl 0)⟩
  · simp at hcs
    have hlm : l ≤ m := by rw [hmm]; split <;> omega
    obtain ⟨T, hT⟩ := choose_lt (α := Bool) (n := l) (p := fun i b => V i = .bool b) (fun i hil => by
      obtain ⟨_, ht⟩ := hi i (by omega)
      obtain ⟨b, e, _⟩ := DataW.trod_bool Try.underlying4 ht
      simp at e
      exact ⟨b, e⟩)
    refine ⟨some a, l, c, T, hcs, fun h0 => ?_⟩
    have a0 := (hi 0 (by omega)).1
    rw [add_zero] at a0
    obtain ⟨b, off, rfl⟩ := plain_spot a0
    refine ⟨b, off, rfl, fun j hj => ?_⟩
    have aj := (hi j (by omega)).1
    rw [add_plain] at aj
    rw [aj, hT j hj]
theorem bytess_open {v : Value} {fuel : Nat} {x : DataW H × List MemPlace} (h : DataW.trod enc Try.prog w base spare held fuel 36 [v] = some x) : ∃ A len cap L, v = .slice A len cap ∧ Lists w .u8 A len L ∧ ∀ i, i < len → Bytes (L i) := by
  have hc1 : Try.prog.cellsOf 23 = 1 := by kernel_rfl
  rcases open_slice1 Try.underlying36 hc1 h with ⟨h0, _⟩ | ⟨a, l, c, m, n, V, D, Pl, hcs, _, hl, hm, hmm, _, hi⟩
  · simp at h0
    exact ⟨none, 0, 0, fun _ => [], h0, fun h => absurd h (Nat.lt_irrefl 0), fun i hi => absurd hi (Nat.not_lt_zero i)⟩
  · simp at hcs
    have hlm : l ≤ m := by rw [hmm]; split <;> omega
    obtain ⟨L, hL⟩ := choose_lt (α := List Int) (n := l) (p := fun i d => (∃ A' c', V i = .slice A' d.length c' ∧ Sl w w.heap.size .u8 A' d.length d) ∧ Bytes d) (fun i hil => by
      obtain ⟨_, ht⟩ := hi i (by omega)
      obtain ⟨A', l', c', e⟩ := slice_form Try.underlying23 ht
      rw [e] at ht
      obtain ⟨d, hd, hb, _, _⟩ := bytes_open ht
      have hdl := hd.len
      subst hdl
      exact ⟨d, ⟨A', c', e, hd⟩, hb⟩)
    refine ⟨some a, l, c, L, hcs, fun h0 => ?_, fun i hi => (hL i hi).2⟩
    have a0 := (hi 0 (by omega)).1
    rw [add_zero] at a0
    obtain ⟨b, off, rfl⟩ := plain_spot a0
    refine ⟨b, off, rfl, fun j hj => ?_⟩
    have aj := (hi j (by omega)).1
    rw [add_plain] at aj
    obtain ⟨⟨A', c', e, hs⟩, _⟩ := hL j hj
    rw [e] at aj
    exact ⟨A', c', aj, hs⟩
theorem intss_open {v : Value} {fuel : Nat} {x : DataW H × List MemPlace} (h : DataW.trod enc Try.prog w base spare held fuel 37 [v] = some x) : ∃ A len cap L, v = .slice A len cap ∧ Lists w .i64 A len L := by
  have hc1 : Try.prog.cellsOf 48 = 1 := by kernel_rfl
  rcases open_slice1 Try.underlying37 hc1 h with ⟨h0, _⟩ | ⟨a, l, c, m, n, V, D, Pl, hcs, _, hl, hm, hmm, _, hi⟩
  · simp at h0
    exact ⟨none, 0, 0, fun _ => [], h0, fun h => absurd h (Nat.lt_irrefl 0)⟩
  · simp at hcs
    have hlm : l ≤ m := by rw [hmm]; split <;> omega
    obtain ⟨L, hL⟩ := choose_lt (α := List Int) (n := l) (p := fun i d => ∃ A' c', V i = .slice A' d.length c' ∧ Sl w w.heap.size .i64 A' d.length d) (fun i hil => by
      obtain ⟨_, ht⟩ := hi i (by omega)
      obtain ⟨A', l', c', e⟩ := slice_form Try.underlying48 ht
      rw [e] at ht
      obtain ⟨d, hd⟩ := ints_open ht
      have hdl := hd.len
      subst hdl
      exact ⟨d, A', c', e, hd⟩)
    refine ⟨some a, l, c, L, hcs, fun h0 => ?_⟩
    have a0 := (hi 0 (by omega)).1
    rw [add_zero] at a0
    obtain ⟨b, off, rfl⟩ := plain_spot a0
    refine ⟨b, off, rfl, fun j hj => ?_⟩
    have aj := (hi j (by omega)).1
    rw [add_plain] at aj
    obtain ⟨A', c', e, hs⟩ := hL j hj
    rw [e] at aj
    exact ⟨A', c', aj, hs⟩
/-- A state that comes in. -/
def StArg (w : World) (v : Value) : Prop := ∃ s AT cT AB cB AH cH, v = .agg #[.slice AT s.nT cT, .slice AB s.nB cB, .slice AH s.nH cH] ∧ Parts w AT cT AB cB AH cH s
set_option maxRecDepth 4000 in
theorem state_open {cs : List Value} {fuel : Nat} {x : DataW H × List MemPlace} (hl : cs.length = 3) (h : DataW.trod enc Try.prog w base spare held fuel 39 cs = some x) : StArg w (.agg cs.toArray) := by
  obtain ⟨ys, n', _, _, _, hyl, hf⟩ := DataW.trod_struct Try.underlying39 h
  have c1 : Try.prog.cellsOf 35 = 1 := by kernel_rfl
  have c2 : Try.prog.cellsOf 36 = 1 := by kernel_rfl
  have c3 : Try.prog.cellsOf 37 = 1 := by kernel_rfl
  match cs, hl, ys, hyl with
  | [v0, v1, v2], _, [y0, y1, y2], _ =>
    have q0 : DataW.trod enc Try.prog w base spare held n' 35 (([v0, v1, v2].drop 0).take (Try.prog.cellsOf 35)) = some y0 := hf 0 _ rfl
    have q1 : DataW.trod enc Try.prog w base spare held n' 36 (([v0, v1, v2].drop 1).take (Try.prog.cellsOf 36)) = some y1 := hf 1 _ rfl
    have q2 : DataW.trod enc Try.prog w base spare held n' 37 (([v0, v1, v2].drop 2).take (Try.prog.cellsOf 37)) = some y2 := hf 2 _ rfl
    rw [c1] at q0
    rw [c2] at q1
    rw [c3] at q2
    simp only [List.drop_zero, List.drop_succ_cons, List.take_succ_cons, List.take_zero] at q0 q1 q2
    obtain ⟨AT, nT, cT, T, rfl, hT⟩ := flags_open q0
    obtain ⟨AB, nB, cB, L, rfl, hB, hby⟩ := bytess_open q1
    obtain ⟨AH, nH, cH, L', rfl, hH⟩ := intss_open q2
    exact ⟨⟨nT, nB, nH, T, L, L'⟩, AT, cT, AB, cB, AH, cH, rfl, hT, hB, hH, hby⟩
/-- The parts of a call that comes in. -/
def OpArg (w : World) (v : Value) : Prop := ∃ k p h o n A len cap, v = .agg #[.int .i64 k, .int .i64 p, .int .i64 h, .int .i64 o, .int .i64 n, .slice A len cap] ∧ BytesAt w A len cap ∧ -9223372036854775808 ≤ o ∧ o ≤ 9223372036854775807
set_option maxRecDepth 4000 in
theorem op_open {cs : List Value} {fuel : Nat} {x : DataW H × List MemPlace} (hl : cs.length = 6) (h : DataW.trod enc Try.prog w base spare held fuel 25 cs = some x) : OpArg w (.agg cs.toArray) := by
  obtain ⟨zs, n'', _, _, _, hzl, hg⟩ := DataW.trod_struct Try.underlying25 h
  have ci : Try.prog.cellsOf 3 = 1 := by kernel_rfl
  have cb : Try.prog.cellsOf 23 = 1 := by kernel_rfl
  match cs, hl, zs, hzl with
  | [v1, v2, v3, v4, v5, v6], _, [u1, u2, u3, u4, u5, u6], _ =>
    have p1 : DataW.trod enc Try.prog w base spare held n'' 3 (([v1, v2, v3, v4, v5, v6].drop 0).take (Try.prog.cellsOf 3)) = some u1 := hg 0 _ rfl
    have p2 : DataW.trod enc Try.prog w base spare held n'' 3 (([v1, v2, v3, v4, v5, v6].drop 1).take (Try.prog.cellsOf 3)) = some u2 := hg 1 _ rfl
    have p3 : DataW.trod enc Try.prog w base spare held n'' 3 (([v1, v2, v3, v4, v5, v6].drop 2).take (Try.prog.cellsOf 3)) = some u3 := hg 2 _ rfl
    have p4 : DataW.trod enc Try.prog w base spare held n'' 3 (([v1, v2, v3, v4, v5, v6].drop 3).take (Try.prog.cellsOf 3)) = some u4 := hg 3 _ rfl
    have p5 : DataW.trod enc Try.prog w base spare held n'' 3 (([v1, v2, v3, v4, v5, v6].drop 4).take (Try.prog.cellsOf 3)) = some u5 := hg 4 _ rfl
    have p6 : DataW.trod enc Try.prog w base spare held n'' 23 (([v1, v2, v3, v4, v5, v6].drop 5).take (Try.prog.cellsOf 23)) = some u6 := hg 5 _ rfl
    rw [ci] at p1 p2 p3 p4 p5
    rw [cb] at p6
    simp only [List.drop_zero, List.drop_succ_cons, List.take_succ_cons, List.take_zero] at p1 p2 p3 p4 p5 p6
    obtain ⟨z1, e1, _, w1⟩ := DataW.trod_int Try.underlying3 p1
    obtain ⟨z2, e2, _, w2⟩ := DataW.trod_int Try.underlying3 p2
    obtain ⟨z3, e3, _, w3⟩ := DataW.trod_int Try.underlying3 p3
    obtain ⟨z4, e4, _, w4⟩ := DataW.trod_int Try.underlying3 p4
    obtain ⟨z5, e5, _, w5⟩ := DataW.trod_int Try.underlying3 p5
    have b4 := bounds_i64 w4
    obtain ⟨A', l', c', rfl⟩ := slice_form Try.underlying23 p6
    have hda := bytes_open p6
    simp at e1 e2 e3 e4 e5
    subst e1 e2 e3 e4 e5
    exact ⟨z1, z2, z3, z4, z5, A', l', c', rfl, hda, b4⟩
/-- A call that comes in. -/
def CallArg (w : World) (v : Value) : Prop := ∃ y : CallV, v = .agg #[.int .i64 y.c, .int .i64 y.k, .int .i64 y.p, .int .i64 y.h, .int .i64 y.o, .int .i64 y.n, .slice y.A y.len y.cap] ∧ BytesAt w y.A y.len y.cap ∧ -9223372036854775808 ≤ y.o ∧ y.o ≤ 9223372036854775807
set_option maxRecDepth 4000 in
theorem call_open {cs : List Value} {fuel : Nat} {x : DataW H × List MemPlace} (hl : cs.length = 7) (h : DataW.trod enc Try.prog w base spare held fuel 55 cs = some x) : CallArg w (.agg cs.toArray) := by
  obtain ⟨ys, n', _, _, _, hyl, hf⟩ := DataW.trod_struct Try.underlying55 h
  have ci : Try.prog.cellsOf 3 = 1 := by kernel_rfl
  have co : Try.prog.cellsOf 25 = 6 := by kernel_rfl
  match cs, hl, ys, hyl with
  | [v0, v1, v2, v3, v4, v5, v6], _, [y0, y1], _ =>
    have q0 : DataW.trod enc Try.prog w base spare held n' 3 (([v0, v1, v2, v3, v4, v5, v6].drop 0).take (Try.prog.cellsOf 3)) = some y0 := hf 0 _ rfl
    have q1 : DataW.trod enc Try.prog w base spare held n' 25 (([v0, v1, v2, v3, v4, v5, v6].drop 1).take (Try.prog.cellsOf 25)) = some y1 := hf 1 _ rfl
    rw [ci] at q0
    rw [co] at q1
    simp only [List.drop_zero, List.drop_succ_cons, List.take_succ_cons, List.take_zero] at q0 q1
    obtain ⟨z0, e0, _, _⟩ := DataW.trod_int Try.underlying3 q0
    simp at e0
    subst e0
    obtain ⟨k, p, hh, o, n, A, len, cap, e, hby, hb⟩ := op_open rfl q1
    obtain ⟨rfl, rfl, rfl, rfl, rfl, rfl⟩ : v1 = .int .i64 k ∧ v2 = .int .i64 p ∧ v3 = .int .i64 hh ∧ v4 = .int .i64 o ∧ v5 = .int .i64 n ∧ v6 = .slice A len cap := by simpa using e
    exact ⟨⟨z0, k, p, hh, o, n, A, len, cap⟩, rfl, hby, hb⟩
end
end Go.Proofs.Ytjdlpknflhgkfaa.Args13
