/-
  For every input the call of lavabolaw10.ArenaBodies returns true and leaves its arguments as they were; no condition.
-/
import Derived.Test.YtcebjeemganhdaaTold10
import Derived.Test.YtcebjeemganhdaaTrees
import Derived.Test.YtcebjeemganhdaaRows
import Derived.WalkKit
import Derived.ProofKit
import Derived.OpenShut
import Derived.ShutString
import Derived.ChangeOld
import Derived.Below
namespace Go.Proofs.Ytcebjeemganhdaa.arenaBodies
open Go.ChangeShapes Go.WideShapes Go.ChangeAt Go.RowKit
open Go.ChangeMaps (open_string shut_string)
open Go.Proofs.Ytcebjeemganhdaa.Mem Go.Proofs.Ytcebjeemganhdaa.Blk Go.Proofs.Ytcebjeemganhdaa.Cells Go.Proofs.Ytcebjeemganhdaa.Orow Go.Proofs.Ytcebjeemganhdaa.TabM Go.Proofs.Ytcebjeemganhdaa.ArM Go.Proofs.Ytcebjeemganhdaa.ArC Go.Proofs.Ytcebjeemganhdaa.ArD Go.Proofs.Ytcebjeemganhdaa.ArR Go.Proofs.Ytcebjeemganhdaa.ArA Go.Proofs.Ytcebjeemganhdaa.ArB Go.Proofs.Ytcebjeemganhdaa.ArT Go.Proofs.Ytcebjeemganhdaa.ArN Go.Proofs.Ytcebjeemganhdaa.Told10 Go.Proofs.Ytcebjeemganhdaa.Stages Go.Proofs.Ytcebjeemganhdaa.Trees
set_option linter.unusedVariables false

theorem own : ownKnob Try.prog.godebug = none := by kernel_rfl
theorem laidOut : laidOutB Try.prog = true := by kernel_rfl

/-- WHAT THE WALK IS TOLD OF A SLICE OF INTEGERS THAT CAME IN: it is nil; or it leads to a row of 'cap' cells, the numbers 'zs' (the first 'len' are its elements, the rest its spare room), each fitting its kind. -/
def IsRow (k : IntKind) (w : World) (a : Option Addr) (len cap : Nat) (zs : List Int) : Prop :=
  (a = none ∧ len = 0 ∧ cap = 0 ∧ zs = []) ∨
  ∃ x, a = some x ∧ len ≤ cap ∧ cap ≤ maxLen ∧ zs.length = cap ∧ (∀ i, i < zs.length → w.cell? (x.add i) = some (.int k (zs.getD i 0))) ∧ ∀ n ∈ zs, (Lit.int k n).wf = true

theorem t_set1 {w : World} {G : Nat → Prop} {d : Nat} {a U : Ar} {x : Int} (h : ArAt w G d a) (hc : a.setC 0 0 [x] = 0) (hu : a.set 0 0 [x] = U) : Calls Try.prog 19 #[.pointer (some ⟨d, 0, none⟩), .int .i64 0, .int .i64 0, .slice (some ⟨w.heap.size, 0, none⟩) 1 1] (w.alloc (.cells #[.int .u8 x] 5)) fun e w' => e = .returned (.int .i64 0) ∧ ArAt w' G d U ∧ Kept G w w' := by
  have hg : Grow w (w.alloc (.cells #[.int .u8 x] 5)) := (Kept.refl _ _).alloc _
  have := set_any (h.grow hg) 0 0 _ 1 1 _ [x] (Sl.new w .u8 5 (0, 0) [x]) (by omega)
  rw [hc, hu] at this
  exact this.mono fun e w' ⟨h1, h2, h3⟩ => ⟨h1, h2, hg.kept.trans h3⟩
theorem t_set2 {w : World} {G : Nat → Prop} {d : Nat} {a U : Ar} {off : Int} {A : Option Addr} {n c B : Nat} {zs : List Int} (h : ArAt w G d a) (hs : Sl w B .u8 A n zs) (hn : n ≤ 1000000) (hc : a.setC 0 off zs = 0) (hu : a.set 0 off zs = U) : Calls Try.prog 19 #[.pointer (some ⟨d, 0, none⟩), .int .i64 0, .int .i64 off, .slice A n c] w (APost G d w (.int .i64 0) U) := by
  have := set_any h 0 off _ n c _ zs hs hn
  rwa [hc, hu] at this
/-- One frame, used by page p; its bytes are b. -/
structure BS (a : Ar) (d : Bool) (b : List Int) (p : Int) : Prop where
  n : a.n = 1
  f : a.F 0 = ⟨1, p, 0, d⟩
  b : a.B 0 = b
  q : a.Q = []
theorem bs_used {a : Ar} {d : Bool} {b : List Int} {p : Int} (h : BS a d b p) : a.used 0 = true := used_iff.2 ⟨0, rfl, by rw [h.n]; omega, by rw [h.f]⟩
theorem bs_take : (ArM.fresh 1).takeC 3 = 0 ∧ BS ((ArM.fresh 1).take 3) false zeros 3 := ⟨by decide, rfl, rfl, rfl, rfl⟩
theorem bs_set {a : Ar} {d : Bool} {b : List Int} {p : Int} (h : BS a d b p) (o : Nat) (zs : List Int) (ho : o + zs.length ≤ 16) : a.setC 0 (o : Int) zs = 0 ∧ BS (a.set 0 (o : Int) zs) true (ArM.splice b o zs) p := by
  have e1 : a.setC 0 (o : Int) zs = 0 := by unfold Ar.setC; rw [if_pos (bs_used h), if_pos (by omega)]
  refine ⟨e1, ?_⟩
  unfold Ar.set
  rw [if_pos e1]
  refine ⟨h.n, ?_, ?_, h.q⟩
  · show upd a.F 0 _ 0 = _
    rw [upd_same]
    show Fr.mk (a.F 0).st (a.F 0).pg (a.F 0).pn true = _
    rw [h.f]
  · show upd a.B 0 _ 0 = _
    rw [upd_same, Int.toNat_natCast]
    show ArM.splice (a.B 0) o zs = _
    rw [h.b]
theorem bs_again {a : Ar} {d : Bool} {b : List Int} {p : Int} (h : BS a d b p) : a.dropC 0 = 0 ∧ (a.drop 0).takeC 4 = 0 ∧ BS ((a.drop 0).take 4) false zeros 4 := by
  have hu := bs_used h
  have e1 : a.dropC 0 = 0 := by
    unfold Ar.dropC
    rw [if_pos hu]
    show (if 0 < (a.F 0).pn then (7 : Int) else 0) = 0
    rw [h.f]
    rfl
  have e2 : a.drop 0 = a.dropF 0 := by unfold Ar.drop; rw [if_pos e1]; rfl
  have eq : (a.dropF 0).Q = [0] := by show a.Q ++ [0] = _; rw [h.q]; rfl
  have ef : (a.dropF 0).find 4 = -1 := find_none fun x hx hs => by
    have hx : x < a.n := hx
    obtain rfl : x = 0 := by have := h.n; omega
    change (upd a.F 0 fFree 0).st = 1 at hs
    rw [upd_same] at hs
    have hs : (0 : Int) = 1 := hs
    omega
  have ec : (a.dropF 0).can 4 = true := by unfold Ar.can; rw [ef]; rfl
  rw [e2]
  refine ⟨e1, by unfold Ar.takeC; rw [if_pos ec, eq]; rfl, ?_⟩
  unfold Ar.take
  rw [if_pos ec, eq]
  exact ⟨h.n, upd_same (upd a.F 0 fFree) 0 (fUsed 4), upd_same a.B 0 zeros, rfl⟩
theorem or_sl {w : World} {g c n : Nat} {t : TypeId} {b : List Int} (h : OR w g t 1 c n (bcell b)) (hb : b.length = n) : Sl w w.heap.size .u8 (some ⟨g, 0, none⟩) n b :=
  ⟨hb, fun _ => ⟨g, 0, rfl, h.lt, fun j hj => by rw [Nat.zero_add, h.cell (by omega)]; rfl⟩⟩
theorem first_byte (c : Int) : ArM.splice zeros 0 [c] = zeros.set 0 c := rfl

theorem slice_want (g o : Nat) (ho : o ≤ 16) (w : World) : (Instr.slice 28 (.slice (some ⟨g, 0, none⟩) 16 16) (some (.int .i64 (o : Int))) none none).run Try.prog w = .ok (.slice (some (if 16 = o then ⟨g, 0, none⟩ else ⟨g, o, none⟩)) (16 - o) (16 - o)) w := by
  have hel : Try.prog.elem 28 = 5 := by kernel_rfl
  obtain ⟨i0, hi, hz0, hz1, hz2⟩ := info_parts infoU8
  have e : (⟨g, 0, none⟩ : Addr).add o = ⟨g, o, none⟩ := by unfold Addr.add; split <;> simp_all
  have := run_slice_l (P := Try.prog) w 28 (some ⟨g, 0, none⟩) 16 16 (by rw [hel]; exact Try.underlying28) .i64 (o : Int) (by omega) (by omega)
  rw [this, hel, Int.toNat_natCast]
  simp [sliced, sizeOf, typeInfo, hi, hz1, e]
  split <;> rfl
theorem copy_want {w : World} {g : Nat} {zs : List Int} (h : NBlk w g 5 .u8 zs) (hz : zs.length = 16) (o n c B : Nat) (A : Option Addr) (bs : List Int) (hs : Sl w B .u8 A n bs) (ho : o + n ≤ 16) :
    ∃ w', (∀ ty, (Builtin.copy_ #[28, 28] ty #[.slice (some (if 16 = o then ⟨g, 0, none⟩ else ⟨g, o, none⟩)) (16 - o) (16 - o), .slice A n c]).run Try.prog w = .ok (.int .i64 (n : Int)) w') ∧ NBlk w' g 5 .u8 (ArM.splice zs o bs) ∧ Kept (· = g) w w' := by
  have hl := hs.len
  rcases Nat.eq_zero_or_pos n with h0 | h0
  · subst h0
    obtain rfl : bs = [] := List.eq_nil_of_length_eq_zero hl
    refine ⟨w, fun ty => run_copy_none w 28 28 ty 5 _ A _ _ 0 c Try.underlying28 sizeU8 (by simp), ?_, Kept.refl _ _⟩
    have : ArM.splice zs o [] = zs := by unfold ArM.splice; rw [List.nil_append, List.length_nil, Nat.add_zero, List.take_append_drop]
    rw [this]
    exact h
  · rw [if_neg (by omega)]
    obtain ⟨w1, h1, h2, h3⟩ := run_copy (P := Try.prog) 28 28 3 5 Try.underlying28 sizeU8 h o (16 - o) (16 - o) c hs n (by simp only [Nat.min_def]; split <;> omega) (by omega)
    refine ⟨w1, fun ty => ?_, ?_, h3⟩
    · rw [← h1]; rfl
    · rw [List.take_of_length_le (l := bs) (by omega)] at h2
      unfold ArM.splice
      rw [hl]
      exact h2

/-! ### STEP 1: THE WALK: the Go text returns true, AND WRITES NOTHING THAT WAS THERE: 'Below w.heap.size w w'' (Derived/Below.lean: '.refl', '.alloc', '.drew', '.setCell' at a new block, '.trans'). Open each 'IsRow' by 'rcases' AHEAD of 'go_enter'; part every test ahead of the walk. -/
set_option maxHeartbeats 4000000 in
set_option maxRecDepth 100000 in
theorem walk (a0 : Int) (a1 : Option Addr) (len1 cap1 : Nat) (z1 : List Int) (a2 : Int) (w : World) (w0 : (Lit.int .i64 a0).wf = true) (w1 : IsRow .u8 w a1 len1 cap1 z1) (w2 : (Lit.int .u8 a2).wf = true) :
    Calls Try.prog 5 #[.int .i64 a0, .slice a1 len1 cap1, .int .u8 a2] w fun e w' => e = .returned (.bool true) ∧ Below w.heap.size w w' := by
  have k0 := bounds_i64 w0
  obtain ⟨hs, hlc, hcm, hwf⟩ := Sl.of_isRow w1
  obtain ⟨bs, hbs⟩ : ∃ bs, bs = z1.take len1 := ⟨_, rfl⟩
  rw [← hbs] at hs hwf
  have hbl := hs.len
  have HS := Lib.hid hs
  unfold maxLen at hcm
  have HN := Lib.hid (new_good (w := w) 1 (by omega))
  simp only [Int.cast_ofNat_Int] at HN
  obtain ⟨B, hB⟩ : ∃ B, B = w.heap.size := ⟨_, rfl⟩
  have HB := Lib.hid hB
  have CN : Hid (Calls Try.prog 8 #[.int .i64 1] w fun e w' => e = .returned (.pointer (some ⟨B, 0, none⟩)) ∧ ArAt w' (B ≤ ·) B (ArM.fresh 1) ∧ Grow w w') := by rw [hB]; exact HN
  clear hB HN hbs hs hwf
  obtain ⟨A1, hA1⟩ : ∃ A1, (ArM.fresh 1).take 3 = A1 := ⟨_, rfl⟩
  have HA1E := Lib.hid hA1
  obtain ⟨M1c, M1⟩ := bs_take
  rw [hA1] at M1
  have HT := Lib.hid (And.intro M1c M1)
  clear M1c M1 hA1
  by_cases h16 : 16 < len1
  · have h16z : (16 : Int) < (len1 : Int) := by omega
    go_enter Try.func5, Try.ntmps5
    go_wp2_with (first
      | (go_at_call 8; (with_reducible refine CN.out.mono ?_); rintro e w1 ⟨rfl, ha, hg⟩; have HA := Lib.hid ha; have G0 := Lib.hid hg; clear ha hg)
      | (go_at_call 11; (with_reducible refine (t_take HA.out 3 HT.out.1 HA1E.out).mono ?_); rintro e w2 ⟨rfl, ha, hk⟩; have G1 : Hid (Grow w w2) := G0.out.then hk (fun k hk e => by have := HB.out; omega); clear ha hk)
      | (go_at_call 10; (with_reducible refine (told_any _).mono ?_); rintro e w3 ⟨rfl, hge⟩; have HGE := Lib.hid hge; clear hge))
    go_ret
    exact ⟨rfl, Grow.below (G1.out.trans HGE.out)⟩
  · have h16z : (len1 : Int) ≤ 16 := by omega
    obtain ⟨o, ho, ho17⟩ := tmod_nat a0 (16 - len1 + 1) (by omega)
    rw [show ((16 - len1 + 1 : Nat) : Int) = 16 - (len1 : Int) + 1 by omega] at ho
    go_enter Try.func5, Try.ntmps5
    go_upto_region 5 with (first
      | (go_at_call 8; (with_reducible refine CN.out.mono ?_); rintro e w1 ⟨rfl, ha, hg⟩; have HA := Lib.hid ha; have G0 := Lib.hid hg; clear ha hg)
      | (go_at_call 11; (with_reducible refine (t_take HA.out 3 HT.out.1 HA1E.out).mono ?_); rintro e w2 ⟨rfl, ha, hk⟩; have HA1 := Lib.hid ha; have G1 : Hid (Grow w w2) := G0.out.then hk (fun k hk e => by have := HB.out; omega); clear ha hk))
    obtain ⟨M2c, M2⟩ := bs_set HT.out.2 0 [a2] (by simp)
    obtain ⟨M3c, M3⟩ := bs_set M2 o bs (by omega)
    simp only [Int.natCast_zero, Int.cast_ofNat_Int] at M2c M2 M3c M3
    obtain ⟨A2, hA2⟩ : ∃ A2, A1.set 0 0 [a2] = A2 := ⟨_, rfl⟩
    rw [hA2] at M2 M3c M3
    obtain ⟨A3, hA3⟩ : ∃ A3, A2.set 0 (o : Int) bs = A3 := ⟨_, rfl⟩
    rw [hA3] at M3
    have HE2 := Lib.hid (And.intro M2c hA2)
    have HE3 := Lib.hid (And.intro M3c hA3)
    have HM3 := Lib.hid M3
    have HO16 : Hid (o + len1 ≤ 16) := by show _ ≤ _; omega
    clear M2c M2 M3c M3 hA2 hA3 ho ho17 HT HA
    go_upto_region 7 with (first
      | (go_at_call 19; (with_reducible refine (t_set1 HA1.out HE2.out.1 HE2.out.2).mono ?_); rintro e w3 ⟨rfl, ha, hk⟩; have HA2 := Lib.hid ha; have G2 : Hid (Grow w w3) := G1.out.then hk (fun k hk e => by have := HB.out; omega); clear ha hk)
      | (go_at_call 19; (with_reducible refine (t_set2 HA2.out (Sl.kept HS.out G2.out (Nat.le_refl _) (fun _ _ x => x)) (by omega) HE3.out.1 HE3.out.2).mono ?_); rintro e w4 ⟨rfl, ha, hk⟩; have HA3 := Lib.hid ha; have G3 : Hid (Grow w w4) := G2.out.then hk (fun k hk e => by have := HB.out; omega); clear ha hk))
    have hmk := fun w => run_make_row' (P := Try.prog) 28 5 (.int .u8 0) 1 Try.underlying28 infoU8 rfl .i64 .i64 16 (by omega) (by omega) w
    simp only [Int.cast_ofNat_Int] at hmk
    go_upto_region 8 with (fail)
    have hb0 := NBlk.made w4 5 .u8 16
    have HG4 : Hid (Grow w (w4.alloc (.cells (madeCells #[Value.int .u8 0] 16) 5))) := G3.out.alloc _
    have HA4 := Lib.hid (HA3.out.grow ((Kept.refl _ w4).alloc (.cells (madeCells #[Value.int .u8 0] 16) 5)))
    have hgl : Hid (w4.heap.size < (w4.alloc (.cells (madeCells #[Value.int .u8 0] 16) 5)).heap.size) := by show _ < _; simp
    have HGW : Hid (Grow w4 (w4.alloc (.cells (madeCells #[Value.int .u8 0] 16) 5))) := (Kept.refl _ w4).alloc _
    generalize w4.alloc (.cells (madeCells #[Value.int .u8 0] 16) 5) = w5 at *
    have HGE := Lib.hid (And.intro HA3.out.lt.1 G3.out.size)
    have HA5 : Hid (ArAt w5 (fun k => B ≤ k ∧ k < w4.heap.size) B A3) := (HA3.out.mono (H := fun k => B ≤ k ∧ k < w4.heap.size) fun k hk hb => ⟨hb, hk⟩).grow HGW.out
    clear HA4 HA3
    generalize w4.heap.size = g at *
    have HB0 := Lib.hid hb0
    have z0 : w5.cell? ⟨g, 0, none⟩ = some (.int .u8 0) := NBlk.at_ hb0 (j := 0) (by simp)
    have zf := Blk.frozenAll hb0
    clear hmk hb0
    go_upto_region 9 with (fail)
    have HB1 : Hid (NBlk (w5.setCell ⟨g, 0, none⟩ (.int .u8 a2)) g 5 .u8 (ArM.splice zeros 0 [a2])) := NBlk.set HB0.out 0 a2
    have HK1 : Hid (Kept (· = g) w5 (w5.setCell ⟨g, 0, none⟩ (.int .u8 a2))) := kept_set _ _ _ _
    clear z0 zf HB0
    generalize w5.setCell ⟨g, 0, none⟩ (.int .u8 a2) = w6 at *
    have HG6 : Hid (Grow w w6) := HG4.out.then HK1.out fun k hk e => by have := HGE.out.2; omega
    have hgB : Hid (B < g) := HGE.out.1
    have HA6 := Lib.hid (HA5.out.kept HK1.out fun k hk e => by omega)
    obtain ⟨w7, hcp, hb7, hk7⟩ := copy_want HB1.out rfl o len1 cap1 _ a1 bs (Sl.kept HS.out HG6.out (Nat.le_refl _) (fun _ _ x => x)) HO16.out
    have HG7 : Hid (Grow w w7) := HG6.out.then hk7 fun k hk e => by have := HGE.out.2; omega
    have HA7 := Lib.hid (HA6.out.kept hk7 fun k hk e => by omega)
    have HM := HM3.out
    obtain ⟨b3, hb3⟩ : ∃ b3, b3 = ArM.splice (ArM.splice zeros 0 [a2]) o bs := ⟨_, rfl⟩
    rw [← hb3] at hb7 HM
    have HB7 := Lib.hid hb7
    have HL3 : Hid (b3.length = 16) := by show _ = _; have := HA7.out.good.b 0; rw [HM.b] at this; exact this
    have HM3' := Lib.hid HM
    clear hb7 hk7 HM HM3 hb3 HB1 HA6 HA5
    have hsa := slice_want g o (by have := HO16.out; omega)
    generalize (if 16 = o then (⟨g, 0, none⟩ : Addr) else ⟨g, o, none⟩) = X at *
    go_upto_region 10 with (fail)
    clear hcp hsa
    have HBO := Lib.hid (body_good HA7.out 0 (bs_used HM3'.out))
    rw [show A3.B (0 : Int).toNat = b3 from HM3'.out.b] at HBO
    go_upto_region 11 with (go_at_call 32; (with_reducible refine HBO.out.mono ?_); rintro e w8 ⟨gx, cx, rfl, hb, ho, hg⟩; have HX := Lib.hid ho; have HXB := Lib.hid hb; have HGX := Lib.hid hg; clear hb ho hg)
    have HA8 := Lib.hid (HA7.out.grow HGX.out)
    have HB8 := Lib.hid (HB7.out.grow HGX.out)
    have HG8 := Lib.hid (HG7.out.trans HGX.out)
    have HFR := Lib.hid (frames_any HA8.out)
    go_upto_region 12 with (go_at_call 31; (with_reducible refine HFR.out.mono ?_); rintro e w9 ⟨vy, rfl, ho, hg⟩; have HY := Lib.hid ho; have HGY := Lib.hid hg; clear ho hg)
    obtain ⟨gy, cy, rfl, ho, hby⟩ := HY.out.form (by have := HM3'.out.n; omega)
    have HYR := Lib.hid ho
    have HYB := Lib.hid hby
    clear ho hby HY HFR
    have HA9 := Lib.hid (HA8.out.grow HGY.out)
    have HB9 := Lib.hid (HB8.out.grow HGY.out)
    have HX9 := Lib.hid (HX.out.grow HGY.out)
    have HG9 := Lib.hid (HG8.out.trans HGY.out)
    have HXG : Hid (gx ≠ g ∧ g < gx) := by
      have h1 := HB7.out.lt
      have h2 := HXB.out
      exact ⟨by omega, by omega⟩
    have y4 : w9.cell? ⟨gy, 4, none⟩ = some (.bool true) := by
      have := FR.c4 HYR.out (f := 0) (by have := HM3'.out.n; omega)
      rw [HM3'.out.f] at this
      exact this
    have hn1 : A3.n = 1 := HM3'.out.n
    rw [hn1]
    have hcx := (or_sl HX9.out HL3.out).str (P := Try.prog) 28 9 5 Try.underlying28 Try.underlying5 Try.underlying9 cx
    have hcw := (Sl.of_blk0 (B := w9.heap.size) HB9.out (n := 16) HL3.out HB9.out.lt).str (P := Try.prog) 28 9 5 Try.underlying28 Try.underlying5 Try.underlying9 16
    go_wp2_with (fail)
    clear hcx hcw y4 hn1
    go_loopg [12] 16 (fun gz i wr => ∃ j f, j + gz = 16 ∧ i = .int .i64 ((j : Nat) : Int) ∧ OR wr gx 5 1 cx 16 f ∧ Kept (· = gx) w9 wr)
    case atStart => exact ⟨0, _, rfl, rfl, HX9.out, Kept.refl _ _⟩
    case round =>
      obtain ⟨j, f, hg, rfl, hor, hk⟩ := hrel
      have HG := Lib.hid hg
      have HOR := Lib.hid hor
      have HK := Lib.hid hk
      clear hg hor hk
      by_cases hj : j < 16
      · have hjz : (j : Int) < 16 := by omega
        have xc := OR.cell HOR.out (i := j) (by omega)
        have xf := OR.frozen HOR.out j
        clear hj
        go_wp2_with (fail)
        go_roundg (gk - 1)
        case measure => have := HG.out; omega
        case rel => exact ⟨j + 1, _, by have := HG.out; omega, by go_num, OR.set HOR.out j _, HK.out.trans (kept_set _ _ _ _)⟩
      · obtain rfl : j = 16 := by have := HG.out; omega
        simp only [Int.cast_ofNat_Int]
        have HAr : Hid (ArAt wr (fun k => B ≤ k ∧ k < g) B A3) := HA9.out.kept HK.out fun k hk e => by have := HXG.out.2; omega
        have HBr := Lib.hid (HB9.out.kept HK.out (fun e => HXG.out.1 e.symm))
        have HGr : Hid (Grow w wr) := HG9.out.then HK.out fun k hk e => by have := HXG.out.2; have := HGE.out; have := HB.out; omega
        obtain ⟨M4c, M5c, M5⟩ := bs_again HM3'.out
        obtain ⟨A4, hA4⟩ : ∃ A4, A3.drop 0 = A4 := ⟨_, rfl⟩
        rw [hA4] at M5c M5
        obtain ⟨A5, hA5⟩ : ∃ A5, A4.take 4 = A5 := ⟨_, rfl⟩
        rw [hA5] at M5
        have HE4 := Lib.hid (And.intro M4c hA4)
        have HE5 := Lib.hid (And.intro M5c hA5)
        have HM5 := Lib.hid M5
        clear M4c M5c M5 hA4 hA5 hj
        have hgG : ¬ (B ≤ g ∧ g < g) := by omega
        go_upto_region 18 with (fail)
        have q1 := up_run (F := fun k => B ≤ k ∧ k < g) (P := Try.prog) (w := wr.drew) fun w' hk => (Sl.of_blk0 (B := w'.heap.size) (Blk.kept HBr.out.drew hk hgG) (n := 16) HL3.out (Blk.lt (Blk.kept HBr.out.drew hk hgG))).str 28 9 5 Try.underlying28 Try.underlying5 Try.underlying9 16
        have HBO2 := Lib.hid (body_good (HAr.out.grow (Kept.drew' wr)) 0 (bs_used HM3'.out))
        rw [show A3.B (0 : Int).toNat = b3 from HM3'.out.b] at HBO2
        refine wp_region_stages (Kept fun k => B ≤ k ∧ k < g) (kept_refl _) (kept_trans _) [([0, 3, 4], 1), ([2, 5, 6, 7], 8), ([9, 10, 11, 12], 13)] [14, 15] (by kernel_rfl) (by kernel_rfl) ?_
        simp only [selSt, sel, List.map_cons, List.map_nil, List.getD_cons_succ, List.getD_cons_zero]
        refine st_cons fun K1 hK1 => ?_
        repeat (go_big_quiet_step (fail))
        refine wpQuiet_nil ?_
        clear q1
        go_wp2_with (go_at_call 32; (with_reducible refine HBO2.out.mono ?_); rintro e w10 ⟨gb, cb, rfl, hb, ho, hg⟩; have HOB := Lib.hid ho; have HOBB := Lib.hid hb; have HGB := Lib.hid hg; clear hb ho hg)
        refine norm_up (hK1 _ _ HGB.out.kept (st_cons fun K2 hK2 => ?_))
        clear hK1 K1
        have HA10 := Lib.hid ((HAr.out.grow (Kept.drew' wr)).grow HGB.out)
        have HG10 : Hid (Grow w w10) := (HGr.out.drew).trans HGB.out
        have hgbG : ¬ (B ≤ gb ∧ gb < g) := by
          have h1 := HBr.out.lt
          have h2 : wr.heap.size ≤ gb := HOBB.out
          omega
        have q2 := up_run (F := fun k => B ≤ k ∧ k < g) (P := Try.prog) (w := w10) fun w' hk => (or_sl (OR.kept HOB.out hk hgbG) HL3.out).str 28 9 5 Try.underlying28 Try.underlying5 Try.underlying9 cb
        repeat (go_big_quiet_step (fail))
        refine wpQuiet_nil ?_
        clear q2
        go_wp2_with (go_at_call 21; (with_reducible refine (t_drop HA10.out 0 HE4.out.1 HE4.out.2).mono ?_); rintro e w11 ⟨rfl, ha, hk⟩; have HA11 := Lib.hid ha; have HK11 := Lib.hid hk; clear ha hk)
        refine norm_up (hK2 _ _ HK11.out (st_cons fun K3 hK3 => ?_))
        clear hK2 K2
        repeat (go_big_quiet_step (fail))
        refine wpQuiet_nil ?_
        go_wp2_with (go_at_call 11; (with_reducible refine (t_take HA11.out 4 HE5.out.1 HE5.out.2).mono ?_); rintro e w12 ⟨rfl, ha, hk⟩; have HA12 := Lib.hid ha; have HK12 := Lib.hid hk; clear ha hk)
        refine norm_up (hK3 _ _ HK12.out (st_nil fun K4 hK4 => ?_))
        clear hK3 K3
        repeat (go_big_quiet_step (fail))
        refine wpQuiet_nil (hK4 _ ?_)
        clear hK4 K4
        have HG12 : Hid (Grow w w12) := (HG10.out.then HK11.out fun k hk e => by have := HB.out; omega).then HK12.out fun k hk e => by have := HB.out; omega
        have HFR := Lib.hid (frames_any HA12.out)
        go_upto_region 21 with (go_at_call 31; (with_reducible refine HFR.out.mono ?_); rintro e w13 ⟨vz, rfl, ho, hg⟩; have HZ := Lib.hid ho; have HGZ := Lib.hid hg; clear ho hg)
        obtain ⟨gz, cz, rfl, ho, hbz⟩ := HZ.out.form (by have := HM5.out.n; omega)
        have hn5 := HM5.out.n
        have z4 : w13.cell? ⟨gz, 4, none⟩ = some (.bool false) := by
          have := FR.c4 ho (f := 0) (by omega)
          rw [HM5.out.f] at this
          exact this
        rw [hn5]
        have HA13 := Lib.hid (HA12.out.grow HGZ.out)
        have HG13 := Lib.hid (HG12.out.trans HGZ.out)
        have Z4 := Lib.hid z4
        clear ho hbz hn5 z4 HZ HFR
        have hmk := fun w => run_make_row' (P := Try.prog) 28 5 (.int .u8 0) 1 Try.underlying28 infoU8 rfl .i64 .i64 16 (by omega) (by omega) w
        simp only [Int.cast_ofNat_Int] at hmk
        have HMK := Lib.hid hmk
        clear hmk
        refine wp_region_tree Grow Grow (kept_refl _) (kept_trans _) (kept_refl _) (kept_trans _) (fun _ _ h => h) []
          (.one true [] 0 (.two true [1, 2] 3 (.one true [4] 5 (.last false [6, 7, 8, 9, 10, 11, 12, 13, 14, 15, 16, 17, 18, 19, 20, 21])) 5 (.one true [6] 3 (.last false [4, 7, 8, 9, 10, 11, 12, 13, 14, 15, 16, 17, 18, 19, 20, 21])))) (by kernel_rfl) (by kernel_rfl) ?_
        refine tr_oneE fun K hK => ?_
        simp only [sel, List.map_cons, List.map_nil, List.getD_cons_succ, List.getD_cons_zero]
        refine wpQuiet_nil ?_
        go_wp2_with (go_at_call 10; (with_reducible refine (told_any _).mono ?_); rintro e w14 ⟨rfl, hge⟩; have HT14 := Lib.hid hge; clear hge)
        refine norm_up (hK _ _ (Lr_early (by decide) HT14.out) ?_)
        clear hK K
        have HA14 := Lib.hid ((HA13.out.grow (Kept.drew' w13)).grow HT14.out)
        have HG14 := Lib.hid (HG13.out.drew.trans HT14.out)
        have Z14 := Lib.hid (HT14.out.cellN (w := w13.drew) (p := ⟨gz, 4, none⟩) Z4.out id)
        have HBZ := fun (wx : World) (hk : Grow w14 wx) => body_good (HA14.out.grow hk) 0 (bs_used HM5.out)
        rw [show A5.B (0 : Int).toNat = zeros from HM5.out.b] at HBZ
        have HBZ' := Lib.hid HBZ
        clear HBZ
        refine tr_twoE fun K1 hK1 K2 hK2 => ?_
        simp only [sel, List.map_cons, List.map_nil, List.getD_cons_succ, List.getD_cons_zero]
        repeat (go_big_quiet_step (fail))
        refine wpQuiet_nil ⟨?_, ?_⟩
        · clear hK2 K2
          go_wp2_with (go_at_call 32; (with_reducible refine (HBZ'.out _ (Kept.refl _ _)).mono ?_); rintro e w15 ⟨gq, cq, rfl, hb, ho, hg⟩; have HOQ := Lib.hid ho; have HGQ := Lib.hid hg; clear hb ho hg)
          refine norm_up (hK1 _ _ (Lr_early (by decide) HGQ.out) ?_)
          clear hK1 K1
          refine tr_oneE fun K hK => ?_
          simp only [sel, List.map_cons, List.map_nil, List.getD_cons_succ, List.getD_cons_zero]
          have q1 := up_run (F := fun _ => False) (P := Try.prog) (w := w15) fun w' hk => (or_sl (OR.grow HOQ.out hk) rfl).str 28 9 5 Try.underlying28 Try.underlying5 Try.underlying9 cq
          repeat (go_big_quiet_step (fail))
          refine wpQuiet_nil ?_
          clear q1
          have hmk := HMK.out
          go_wp2
          clear hmk
          have HN15 : Hid (NBlk (w15.alloc (.cells (madeCells #[Value.int .u8 0] 16) 5)) w15.heap.size 5 .u8 zeros) := NBlk.made w15 5 .u8 16
          have HG16 : Hid (Grow w15 (w15.alloc (.cells (madeCells #[Value.int .u8 0] 16) 5))) := (Kept.refl _ _).alloc _
          generalize w15.alloc (.cells (madeCells #[Value.int .u8 0] 16) 5) = w16 at *
          refine norm_up (hK _ _ (Lr_early (by decide) HG16.out) ?_)
          clear hK K
          refine tr_lastL fun K hK => ?_
          simp only [sel, List.map_cons, List.map_nil, List.getD_cons_succ, List.getD_cons_zero]
          have q2 := up_run (F := fun _ => False) (P := Try.prog) (w := w16) fun w' hk => (Sl.of_blk0 (B := w'.heap.size) (Blk.grow HN15.out hk) (n := 16) rfl (Blk.lt (Blk.grow HN15.out hk))).str 28 9 5 Try.underlying28 Try.underlying5 Try.underlying9 16
          have q3 := up_cell (F := fun _ => False) (w := w16) ((HGQ.out.trans HG16.out).cellN Z14.out id) id
          repeat (go_big_quiet_step (fail))
          refine wpQuiet_nil (hK _ ?_)
          clear hK K q2 q3
          go_wp2
          go_ret
          exact ⟨rfl, Grow.below ((HG14.out.trans HGQ.out).trans HG16.out)⟩
        · clear hK1 K1
          have hmk := HMK.out
          go_wp2
          clear hmk
          have HN15 : Hid (NBlk (w14.alloc (.cells (madeCells #[Value.int .u8 0] 16) 5)) w14.heap.size 5 .u8 zeros) := NBlk.made w14 5 .u8 16
          have HG16 : Hid (Grow w14 (w14.alloc (.cells (madeCells #[Value.int .u8 0] 16) 5))) := (Kept.refl _ _).alloc _
          generalize w14.alloc (.cells (madeCells #[Value.int .u8 0] 16) 5) = w15 at *
          refine norm_up (hK2 _ _ (Lr_early (by decide) HG16.out) ?_)
          clear hK2 K2
          refine tr_oneE fun K hK => ?_
          simp only [sel, List.map_cons, List.map_nil, List.getD_cons_succ, List.getD_cons_zero]
          have q1 := up_run (F := fun _ => False) (P := Try.prog) (w := w15) fun w' hk => (Sl.of_blk0 (B := w'.heap.size) (Blk.grow HN15.out hk) (n := 16) rfl (Blk.lt (Blk.grow HN15.out hk))).str 28 9 5 Try.underlying28 Try.underlying5 Try.underlying9 16
          repeat (go_big_quiet_step (fail))
          refine wpQuiet_nil ?_
          clear q1
          go_wp2_with (go_at_call 32; (with_reducible refine (HBZ'.out _ HG16.out).mono ?_); rintro e w16 ⟨gq, cq, rfl, hb, ho, hg⟩; have HOQ := Lib.hid ho; have HGQ := Lib.hid hg; clear hb ho hg)
          refine norm_up (hK _ _ (Lr_early (by decide) HGQ.out) ?_)
          clear hK K
          refine tr_lastL fun K hK => ?_
          simp only [sel, List.map_cons, List.map_nil, List.getD_cons_succ, List.getD_cons_zero]
          have q2 := up_run (F := fun _ => False) (P := Try.prog) (w := w16) fun w' hk => (or_sl (OR.grow HOQ.out hk) rfl).str 28 9 5 Try.underlying28 Try.underlying5 Try.underlying9 cq
          have q3 := up_cell (F := fun _ => False) (w := w16) ((HG16.out.trans HGQ.out).cellN Z14.out id) id
          repeat (go_big_quiet_step (fail))
          refine wpQuiet_nil (hK _ ?_)
          clear hK K q2 q3
          go_wp2
          go_ret
          exact ⟨rfl, Grow.below ((HG14.out.trans HG16.out).trans HGQ.out)⟩

/-! ### THE ROW's STEP: WRITTEN OUT: LEAVE IT -/
set_option maxRecDepth 100000 in
theorem lifted (os : Os) (started : os.Started) (H : Type) (enc : TypeId × Value → H) :
    ReturnsInHanded {} Try.checked os 5 .any (Rows.arenaBodiesSpec.pre6 enc Try.prog Try.f5 Rows.arenaBodiesRow.domain false) (Rows.arenaBodiesSpec.post enc Try.prog Try.f5 false true false false) := by
  refine returnsInHanded_of_change (C := Try.checked) own started (by kernel_rfl) Try.func5
    (ChangeSpec.witness6 (enc := enc) (C := Try.checked) false ⟨#[], #[.int .i64 0, .slice none 0 0, .int .u8 0], []⟩ 8 (by kernel_rfl) (by kernel_rfl) (by kernel_rfl) (by kernel_rfl)) ?_
  intro W base args ds gs before hval0 hW hcnd _
  have hval : ∀ (j : Nat) t v, Try.f5.params[j]? = some t → args[j]? = some v → Value.okWide Try.prog W .any base t v := hval0
  have hW' := hW
  obtain ⟨p, q, hA0, hV, rfl, hfz, hnd⟩ := hW
  have hA : DataW.TrodAll enc Try.prog W 0 (fun _ => true) true Try.f5.params.toList args.toList ds p := hA0
  rw [Try.params5] at hA hval
  obtain ⟨v0, vs0, d0, ds0, p0, q0, hargs, rfl, rfl, h0, r0⟩ := trodAll_cons hA
  obtain ⟨v1, vs1, d1, ds1, p1, q1, rfl, rfl, rfl, h1, r1⟩ := trodAll_cons r0
  obtain ⟨v2, vs2, d2, ds2, p2, q2, rfl, rfl, rfl, h2, r2⟩ := trodAll_cons r1
  obtain ⟨rfl, rfl, rfl⟩ := trodAll_nil r2
  obtain rfl : args = #[v0, v1, v2] := by cases args; simp_all
  obtain ⟨rfl, rfl⟩ := trodVars_none hV
  obtain ⟨a0, rfl, rfl, rfl, w0⟩ := open_int Try.underlying3 (hval 0 3 v0 rfl rfl) h0
  obtain ⟨a1, len1, cap1, rfl⟩ := okWide_slice Try.underlying28 (hval 1 28 v1 rfl rfl)
  have k1 := h1
  have lt1 : ∀ x ∈ p1, x.block < W.heap.size := by obtain ⟨m, hm⟩ := k1; exact DataW.trod_lt m _ _ _ hm
  obtain ⟨z1, w1⟩ : ∃ zs, IsRow .u8 W a1 len1 cap1 zs := by
    obtain ⟨fuel, hf⟩ := h1
    rcases open_ints Try.underlying28 Try.underlying5 (by kernel_rfl) hf with ⟨hcs, _⟩ | ⟨x, l, c, zs, hcs, _, hl, hm, hz, _, hcell, hwz⟩
    · simp [Value.cells] at hcs
      obtain ⟨rfl, rfl, rfl⟩ := hcs
      exact ⟨[], .inl ⟨rfl, rfl, rfl, rfl⟩⟩
    · simp [Value.cells] at hcs
      obtain ⟨rfl, rfl, rfl⟩ := hcs
      exact ⟨zs, .inr ⟨_, rfl, hl, hm, by simpa using hz, hcell, hwz⟩⟩
  obtain ⟨a2, rfl, rfl, rfl, w2⟩ := open_int Try.underlying5 (hval 2 5 v2 rfl rfl) h2
  clear hA0 hval0
  refine (walk a0 a1 len1 cap1 z1 a2 W w0 w1 w2).mono fun e W' ⟨he, bel⟩ => ?_
  subst he
  exact ⟨_, rfl, _, _, _, [], _, [], hW', trodAll_mk1 (shut_bool Try.underlying4 _), (trodAll_cons_mk (shut_int Try.underlying3 w0) (trodAll_cons_mk (Below.trod laidOut (by kernel_rfl) (of_decide_eq_true (by kernel_rfl)) k1 bel lt1) (trodAll_cons_mk (shut_int Try.underlying5 w2) trodAll_mk0))), rfl, bel.frame _, fun h => by cases h⟩

theorem over : Rows.arenaBodiesRow.holds Try.pinned (OpenSpec.ofChange Rows.arenaBodiesSpec) :=
  OpenClaim.holds_of_wide 5 Try.f5 rfl rfl rfl rfl rfl rfl rfl ⟨rfl, rfl, rfl, rfl, rfl⟩ rfl rfl rfl rfl rfl (by kernel_rfl) Try.func5 (by kernel_rfl)
    (of_decide_eq_true (by kernel_rfl)) (by unfold Func.isWrapper; first | (rw [if_pos (by decide +kernel)]; kernel_rfl) | (rw [if_neg (by decide +kernel)]; exact ⟨rfl, rfl⟩))
    (fun os started H enc _ => lifted os started H enc)

/-- ████ THE STATEMENT ████ -/
theorem proved : Rows.ArenaBodiesSaid := over
#print axioms proved
end Go.Proofs.Ytcebjeemganhdaa.arenaBodies
