/-
  For every input the call of lavabolaw14.HistOrders returns true and leaves its arguments as they were; no condition.
-/
import Derived.Test.YtjdlpknflhgkfaaTold14
import Derived.Test.YtjdlpknflhgkfaaHsFew
import Derived.Test.YtjdlpknflhgkfaaRows
import Derived.WalkKit
import Derived.ProofKit
import Derived.OpenShut
import Derived.ShutString
import Derived.ChangeOld
import Derived.Below
namespace Go.Proofs.Ytjdlpknflhgkfaa.histOrders
open Go.ChangeShapes Go.WideShapes Go.ChangeAt Go.RowKit
open Go.ChangeMaps (open_string shut_string)
open Go.Proofs.Ytjdlpknflhgkfaa.Mem Go.Proofs.Ytjdlpknflhgkfaa.Blk Go.Proofs.Ytjdlpknflhgkfaa.Cells Go.Proofs.Ytjdlpknflhgkfaa.MdM Go.Proofs.Ytjdlpknflhgkfaa.HsM Go.Proofs.Ytjdlpknflhgkfaa.HsE Go.Proofs.Ytjdlpknflhgkfaa.HsB Go.Proofs.Ytjdlpknflhgkfaa.HsO Go.Proofs.Ytjdlpknflhgkfaa.HsK Go.Proofs.Ytjdlpknflhgkfaa.HsT Go.Proofs.Ytjdlpknflhgkfaa.HsF Go.Proofs.Ytjdlpknflhgkfaa.PmM Go.Proofs.Ytjdlpknflhgkfaa.Told14 Go.Proofs.Ytjdlpknflhgkfaa.Stages
set_option linter.unusedVariables false

theorem own : ownKnob Try.prog.godebug = none := by kernel_rfl
theorem laidOut : laidOutB Try.prog = true := by kernel_rfl

theorem ord_flen {L : Nat → Ev} {n : Nat} {l : List Nat} (h : Ord L n l) : l.length = (fl L n).length := by
  have hp : l.Perm (fl L n) := (List.perm_ext_iff_of_nodup (ord_nodup h) (fl_nodup L n)).2 fun i => by rw [h.1 i, fl_mem]
  exact hp.length_eq
/-- Two that follow one another. -/
theorem ord_next {L : Nat → Ev} {n k : Nat} {l : List Nat} (h : Ord L n l) (h0 : 0 < k) (hk : k < l.length) : lt L (l.getD (k - 1) 0) (l.getD k 0) := by
  have := (List.pairwise_iff_getElem.1 h.2) (k - 1) k (by omega) hk (by omega)
  rw [List.getD_eq_getElem?_getD, List.getD_eq_getElem?_getD, List.getElem?_eq_getElem (show k - 1 < l.length by omega), List.getElem?_eq_getElem hk]
  exact this
theorem ord_at {L : Nat → Ev} {n k : Nat} {l : List Nat} (h : Ord L n l) (hk : k < l.length) : l.getD k 0 < n ∧ 0 < (L (l.getD k 0)).s := by
  refine ord_lt h ?_
  rw [List.getD_eq_getElem?_getD, List.getElem?_eq_getElem hk]
  exact List.getElem_mem hk
set_option maxHeartbeats 8000000 in
set_option maxRecDepth 100000 in
theorem walk (a0 : Option Addr) (len0 cap0 : Nat) (w : World) (w0 : HistAt w a0 len0 cap0) :
    Calls Try.prog 9 #[.slice a0 len0 cap0] w fun e w' => e = .returned (.bool true) ∧ Below w.heap.size w w' := by
  obtain ⟨hlc, hcm, L, hev⟩ := w0
  have HEV := Lib.hid hev
  have CF := Lib.hid (few_any hev (Nat.le_trans hlc hcm) cap0)
  clear hev
  go_enter Try.func9, Try.ntmps9
  by_cases hf : ¬ FewH len0 L
  · have HF := Lib.hid hf
    clear hf
    go_wp2_with (first
      | (go_at_call 12; (with_reducible refine CF.out.mono ?_); rintro e w1 ⟨⟨b, rfl, hb⟩, hg⟩; obtain rfl : b = false := (Bool.eq_false_iff.2 fun h => HF.out (hb.1 h)); have HG1 := Lib.hid hg; clear hb hg)
      | (go_at_call 10; (with_reducible refine (told_any _).mono ?_); rintro e wt ⟨rfl, hge⟩; have HGE := Lib.hid hge; clear hge))
    go_ret
    exact ⟨rfl, Grow.below (HG1.out.trans HGE.out)⟩
  have HF : Hid (FewH len0 L) := Classical.byContradiction hf
  have h60 : (len0 : Int) ≤ 60 := by have := HF.out.1; omega
  clear hf
  have CO : Hid (∀ wx, Grow w wx → Calls Try.prog 16 #[.slice a0 len0 cap0] wx (OrdP L len0 wx)) := fun wx hg => order_any (HEV.out.grow hg) (by have := HF.out.1; omega) cap0
  go_upto_region 4 with (first
      | (go_at_call 12; (with_reducible refine CF.out.mono ?_); rintro e w1 ⟨⟨b, rfl, hb⟩, hg⟩; obtain rfl : b = true := hb.2 HF.out; have HG1 := Lib.hid hg; clear hb hg)
      | (go_at_call 16; (with_reducible refine (CO.out _ HG1.out).mono ?_); rintro e w2 ⟨l, OA, oc, rfl, ho, hsl, hnew, hg⟩; have HO := Lib.hid ho; have HSL := Lib.hid hsl; have HG2 := Lib.hid (HG1.out.trans hg); clear ho hsl hnew hg))
  have HE2 := Lib.hid (HEV.out.grow HG2.out)
  clear CF CO
  go_wp2
  go_loopg [4, 5] len0 (fun gx c i wr => ∃ j : Nat, j + gx = len0 ∧ i = .int .i64 (j : Int) ∧ c = .int .i64 (((fl L j).length : Nat) : Int) ∧ w2 = wr)
  case atStart => exact ⟨0, by omega, rfl, rfl, rfl⟩
  case round =>
    obtain ⟨j, hg, rfl, rfl, rfl⟩ := hrel
    have HG := Lib.hid hg
    clear hg
    by_cases hj : j < len0
    · have hjz : (j : Int) < (len0 : Int) := by omega
      have HJ := Lib.hid hj
      obtain ⟨b, off, rfl, hall⟩ := HE2.out (by omega)
      obtain ⟨D, dl, dc, A', al, ac, hc, hd⟩ := hall j hj
      have c12 := hc 12 _ rfl
      have hfz : (((fl L j).length : Nat) : Int) ≤ 60 := by have := fl_len L j; have := HF.out.1; omega
      clear hall hc hd
      by_cases hs : 0 < (L j).s
      · have HS := Lib.hid (fl_yes hs)
        clear hj
        go_wp2
        go_roundg (gk - 1)
        case measure => have := HG.out; have := HJ.out; omega
        case rel => exact ⟨j + 1, by have := HG.out; have := HJ.out; omega, by go_num, by rw [HS.out, List.length_append]; go_num, rfl⟩
      · have HS := Lib.hid (fl_no hs)
        clear hj
        go_wp2
        go_roundg (gk - 1)
        case measure => have := HG.out; have := HJ.out; omega
        case rel => exact ⟨j + 1, by have := HG.out; have := HJ.out; omega, by go_num, by rw [HS.out], rfl⟩
    · have hjN : j = len0 := by have := HG.out; omega
      subst hjN
      clear hj
      have HLN : Hid (l.length = (fl L j).length) := ord_flen HO.out
      have hlz : (l.length : Int) ≤ 60 := by have := ord_len HO.out; have := HF.out.1; omega
      go_wp2
      go_loopg [6] l.length (fun gx i wr => ∃ k : Nat, k + gx = l.length ∧ i = .int .i64 (k : Int) ∧ Grow w2 wr)
      case atStart => exact ⟨0, by omega, rfl, Kept.refl _ _⟩
      case round =>
        obtain ⟨k, hgk, rfl, hgw⟩ := hrel
        have HGK := Lib.hid hgk
        have HGW := Lib.hid hgw
        clear hgk hgw
        by_cases hk : k < l.length
        · have hkz : (k : Int) < (l.length : Int) := by omega
          have HK := Lib.hid hk
          obtain ⟨ob, oo, rfl, _, hoc⟩ := HSL.out.at_ (by omega)
          have hat := ord_at HO.out hk
          obtain ⟨b, off, rfl, hall⟩ := HE2.out (by omega)
          have o1 := HGW.out.cellN (hoc k hk) id
          rw [nums_get] at o1
          have s1 := HGW.out.cellN (show w2.cell? ⟨b, off + l.getD k 0 * 14 + 12, none⟩ = some (.int .i64 (L (l.getD k 0)).s) by
            obtain ⟨D, dl, dc, A', al, ac, hc, hd⟩ := hall _ hat.1
            exact hc 12 _ rfl) id
          have hat1 : ((l.getD k 0 : Nat) : Int) < (j : Int) := by omega
          have hat2 := hat.2
          have HAT := Lib.hid hat
          have h1 : ¬ ((l.getD k 0 : Nat) : Int) < 0 := by omega
          have h2 : ¬ (j : Int) ≤ ((l.getD k 0 : Nat) : Int) := by omega
          have h3 : ¬ (L (l.getD k 0)).s ≤ 0 := by omega
          have HNX := Lib.hid (fun h0 => ord_next HO.out h0 hk)
          have HOB := Lib.hid hoc
          have HALL : Hid (∀ i, i < j → wr.cell? ⟨b, off + i * 14 + 12, none⟩ = some (.int .i64 (L i).s)) := fun i hi => by
            obtain ⟨D, dl, dc, A', al, ac, hc, hd⟩ := hall i hi
            exact HGW.out.cellN (hc 12 _ rfl) id
          clear hk hat hoc hall
          generalize hp : l.getD k 0 = p at *
          have HPP := Lib.hid hp
          clear hp
          go_upto_region 15 with (fail)
          rcases Nat.eq_zero_or_pos k with h0 | h0
          · have hg0 : ¬ (0 : Int) < (k : Int) := by omega
            have hg0' : decide ((0 : Int) < (k : Int)) = false := decide_eq_false hg0
            have hg1 : ¬ 0 < k := by omega
            have hg1' : decide (0 < k) = false := decide_eq_false hg1
            clear h0
            refine wp_region_stages Grow (kept_refl _) (kept_trans _) [] [0, 1, 2, 3, 4, 5, 6, 7, 8, 9, 10, 11, 12, 13, 14, 15, 16, 17, 18, 19, 20, 21, 22, 23, 24, 25, 26, 27, 28, 29, 30, 31, 32, 33, 34, 35, 36, 37, 38, 39, 40, 41, 42, 43, 44, 45, 46, 47, 48, 49, 50, 51, 52, 53] (by kernel_rfl) (by kernel_rfl) ?_
            simp only [selSt, sel, List.map_cons, List.map_nil, List.getD_cons_succ, List.getD_cons_zero]
            refine st_nil fun K2 hK2 => ?_
            repeat (go_big_quiet_step (fail))
            refine wpQuiet_nil (hK2 _ ?_)
            clear hK2 K2
            go_wp2
            go_roundg (gk - 1)
            case measure => have := HGK.out; have := HK.out; omega
            case rel => exact ⟨k + 1, by have := HGK.out; have := HK.out; omega, by go_num, HGW.out.drew⟩
          · have hg0 : (0 : Int) < (k : Int) := by omega
            have hge : (0 : Int) ≤ (k : Int) - 1 := by omega
            have hlt : (k : Int) - 1 < (l.length : Int) := by omega
            have hnx := HNX.out h0
            have hq := (ord_at HO.out (k := k - 1) (by have := HK.out; omega)).1
            have o2 := HGW.out.cellN (HOB.out (k - 1) (by have := HK.out; omega)) id
            rw [nums_get] at o2
            generalize l.getD (k - 1) 0 = q at *
            have hqz : (q : Int) < (j : Int) := by omega
            have s2 := HALL.out q hq
            have u1 := up_cell (F := fun _ => False) (w := wr.drew) o1 id
            have u2 := up_cell (F := fun _ => False) (w := wr.drew) s1 id
            have u3 := up_cell (F := fun _ => False) (w := wr.drew) o2 id
            unfold lt at hnx
            by_cases hs : (L q).s < (L p).s
            · have n1 : ¬ (L p).s < (L q).s := by omega
              have n1' : decide ((L p).s < (L q).s) = false := decide_eq_false n1
              have n2 : ((L p).s == (L q).s) = false := by rw [beq_eq_false_iff_ne]; omega
              have u4 := up_cell (F := fun _ => False) (w := wr.drew) s2 id
              clear hnx hs
              refine wp_region_stages Grow (kept_refl _) (kept_trans _) [] [0, 1, 2, 3, 4, 5, 6, 7, 8, 9, 10, 11, 12, 13, 14, 15, 16, 17, 18, 19, 20, 21, 22, 23, 24, 25, 26, 27, 28, 29, 30, 31, 32, 33, 34, 35, 36, 37, 38, 39, 40, 41, 42, 43, 44, 45, 46, 47, 48, 49, 50, 51, 52, 53] (by kernel_rfl) (by kernel_rfl) ?_
              simp only [selSt, sel, List.map_cons, List.map_nil, List.getD_cons_succ, List.getD_cons_zero]
              refine st_nil fun K2 hK2 => ?_
              repeat (go_big_quiet_step (fail))
              refine wpQuiet_nil (hK2 _ ?_)
              clear hK2 K2
              go_wp2
              go_roundg (gk - 1)
              case measure => have := HGK.out; have := HK.out; omega
              case rel => exact ⟨k + 1, by have := HGK.out; have := HK.out; omega, by go_num, HGW.out.drew⟩
            · have e1 : (L q).s = (L p).s := by omega
              have n3 : ¬ (p : Int) ≤ (q : Int) := by omega
              have n3' : decide ((p : Int) ≤ (q : Int)) = false := decide_eq_false n3
              have n4 : ¬ p ≤ q := by omega
              have n4' : decide (p ≤ q) = false := decide_eq_false n4
              rw [e1] at s2
              have u4 := up_cell (F := fun _ => False) (w := wr.drew) s2 id
              clear hnx hs e1
              refine wp_region_stages Grow (kept_refl _) (kept_trans _) [] [0, 1, 2, 3, 4, 5, 6, 7, 8, 9, 10, 11, 12, 13, 14, 15, 16, 17, 18, 19, 20, 21, 22, 23, 24, 25, 26, 27, 28, 29, 30, 31, 32, 33, 34, 35, 36, 37, 38, 39, 40, 41, 42, 43, 44, 45, 46, 47, 48, 49, 50, 51, 52, 53] (by kernel_rfl) (by kernel_rfl) ?_
              simp only [selSt, sel, List.map_cons, List.map_nil, List.getD_cons_succ, List.getD_cons_zero]
              refine st_nil fun K2 hK2 => ?_
              repeat (go_big_quiet_step (fail))
              refine wpQuiet_nil (hK2 _ ?_)
              clear hK2 K2
              go_wp2
              go_roundg (gk - 1)
              case measure => have := HGK.out; have := HK.out; omega
              case rel => exact ⟨k + 1, by have := HGK.out; have := HK.out; omega, by go_num, HGW.out.drew⟩
        · have hkN : k = l.length := by have := HGK.out; omega
          subst hkN
          have HGX : Hid (Grow w wr) := HG2.out.trans HGW.out
          have hle := HLN.out
          rw [hle]
          clear hk
          go_wp2_with (go_at_call 10; (with_reducible refine (told_any _).mono ?_); rintro e wt ⟨rfl, hge⟩; have HGE := Lib.hid hge; clear hge)
          go_ret
          exact ⟨rfl, Grow.below (HGX.out.trans HGE.out)⟩

set_option maxRecDepth 100000 in
theorem lifted (os : Os) (started : os.Started) (H : Type) (enc : TypeId × Value → H) :
    ReturnsInHanded {} Try.checked os 9 .any (Rows.histOrdersSpec.pre6 enc Try.prog Try.f9 Rows.histOrdersRow.domain false) (Rows.histOrdersSpec.post enc Try.prog Try.f9 false true false false) := by
  refine returnsInHanded_of_change (C := Try.checked) own started (by kernel_rfl) Try.func9
    (ChangeSpec.witness6 (enc := enc) (C := Try.checked) false ⟨#[], #[.slice none 0 0], []⟩ 8 (by kernel_rfl) (by kernel_rfl) (by kernel_rfl) (by kernel_rfl)) ?_
  intro W base args ds gs before hval0 hW hcnd _
  have hval : ∀ (j : Nat) t v, Try.f9.params[j]? = some t → args[j]? = some v → Value.okWide Try.prog W .any base t v := hval0
  have hW' := hW
  obtain ⟨p, q, hA0, hV, rfl, hfz, hnd⟩ := hW
  have hA : DataW.TrodAll enc Try.prog W 0 (fun _ => true) true Try.f9.params.toList args.toList ds p := hA0
  rw [Try.params9] at hA hval
  obtain ⟨v0, vs0, d0, ds0, p0, q0, hargs, rfl, rfl, h0, r0⟩ := trodAll_cons hA
  obtain ⟨rfl, rfl, rfl⟩ := trodAll_nil r0
  obtain rfl : args = #[v0] := by cases args; simp_all
  obtain ⟨rfl, rfl⟩ := trodVars_none hV
  obtain ⟨a0, len0, cap0, rfl⟩ := okWide_slice Try.underlying30 (hval 0 30 v0 rfl rfl)
  have k0 := h0
  have lt0 : ∀ x ∈ p0, x.block < W.heap.size := by obtain ⟨m, hm⟩ := k0; exact DataW.trod_lt m _ _ _ hm
  have w0 : HistAt W a0 len0 cap0 := by obtain ⟨fuel, hf⟩ := h0; exact hist_open hf
  clear hA0 hval0
  refine (walk a0 len0 cap0 W w0).mono fun e W' ⟨he, bel⟩ => ?_
  subst he
  exact ⟨_, rfl, _, _, _, [], _, [], hW', trodAll_mk1 (shut_bool Try.underlying4 _), (trodAll_cons_mk (Below.trod laidOut (by kernel_rfl) (of_decide_eq_true (by kernel_rfl)) k0 bel lt0) trodAll_mk0), rfl, bel.frame _, fun h => by cases h⟩

theorem over : Rows.histOrdersRow.holds Try.pinned (OpenSpec.ofChange Rows.histOrdersSpec) :=
  OpenClaim.holds_of_wide 9 Try.f9 rfl rfl rfl rfl rfl rfl rfl ⟨rfl, rfl, rfl, rfl, rfl⟩ rfl rfl rfl rfl rfl (by kernel_rfl) Try.func9 (by kernel_rfl)
    (of_decide_eq_true (by kernel_rfl)) (by unfold Func.isWrapper; first | (rw [if_pos (by decide +kernel)]; kernel_rfl) | (rw [if_neg (by decide +kernel)]; exact ⟨rfl, rfl⟩))
    (fun os started H enc _ => lifted os started H enc)

/-- ████ THE STATEMENT ████ -/
theorem proved : Rows.HistOrdersSaid := over
#print axioms proved
end Go.Proofs.Ytjdlpknflhgkfaa.histOrders
