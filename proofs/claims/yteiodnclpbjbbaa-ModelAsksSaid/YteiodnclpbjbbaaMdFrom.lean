/-
  The document's From: what it makes of any state, and whether that may be.
-/
import Derived.Test.YteiodnclpbjbbaaMdNew
import Derived.Test.YteiodnclpbjbbaaMdCl
import Derived.Test.YteiodnclpbjbbaaPmSame
import Derived.Test.YteiodnclpbjbbaaPmMay
import Derived.Deep.CutRange
namespace Go.Proofs.Yteiodnclpbjbbaa.MdFrom
open Go.ChangeShapes Go.WideShapes Go.ChangeAt Go.RowKit
open Go.Proofs.Yteiodnclpbjbbaa.Mem Go.Proofs.Yteiodnclpbjbbaa.Blk Go.Proofs.Yteiodnclpbjbbaa.Cells Go.Proofs.Yteiodnclpbjbbaa.Orow Go.Proofs.Yteiodnclpbjbbaa.GrC Go.Proofs.Yteiodnclpbjbbaa.MdM Go.Proofs.Yteiodnclpbjbbaa.MdC Go.Proofs.Yteiodnclpbjbbaa.MdR Go.Proofs.Yteiodnclpbjbbaa.MdK Go.Proofs.Yteiodnclpbjbbaa.MdN Go.Proofs.Yteiodnclpbjbbaa.PmC Go.Proofs.Yteiodnclpbjbbaa.PmM Go.Proofs.Yteiodnclpbjbbaa.PmS Go.Proofs.Yteiodnclpbjbbaa.Txt Go.Proofs.Yteiodnclpbjbbaa.Stages Go.Proofs.Yteiodnclpbjbbaa.Trees

theorem ret_Sb {w : World} {fn : Func} {R : Ending → World → Prop} {act : Act} {p g u : Nat} {t : TypeId} {x y z : Value} (h : fn.results = #[.cell p 41, .tmp u]) (hp : act.tmps.getD p undef = .pointer (some ⟨g, 0, none⟩)) (hg : Blk w g t [x, y, z]) (hd : act.defers = []) (hR : R (.returned (.tuple #[.agg #[x, y, z], act.tmps.getD u undef])) w) : bodyPost Try.prog fn R .ret act w := by
  refine bodyPost_ret ?_ hd hR
  have hp' : act.tmps[p]?.getD undef = .pointer (some ⟨g, 0, none⟩) := by simpa using hp
  simp [results, h, hp', asAddr, load_S hg]
/-- What From tells of a state that reads as s. -/
def FromP (s : St) (w : World) (e : Ending) (w' : World) : Prop := ∃ X1 n1 c1 X2 n2 c2 X3 n3 c3 b, e = .returned (.tuple #[.agg #[.slice X1 n1 c1, .slice X2 n2 c2, .slice X3 n3 c3], .bool b]) ∧ (b = true ↔ s.may) ∧ (b = true → SAt w' (w.heap.size ≤ ·) (.agg #[.slice X1 n1 c1, .slice X2 n2 c2, .slice X3 n3 c3]) s.md) ∧ Grow w w'
theorem FromP.no {s : St} {w w' : World} (hm : ¬ s.may) (hg : Grow w w') : FromP s w (.returned (.tuple #[.agg #[.slice none 0 0, .slice none 0 0, .slice none 0 0], .bool false])) w' :=
  ⟨_, _, _, _, _, _, _, _, _, false, rfl, ⟨fun e => Bool.noConfusion e, fun h => absurd h hm⟩, fun e => Bool.noConfusion e, hg⟩
abbrev W0 (w : World) (x y z : Value) : World := ((w.alloc (.cells #[x, y, z] 28)).alloc (.cells #[.slice none 0 0, .slice none 0 0, .slice none 0 0] 41)).alloc (.cells #[.slice none 0 0, .slice none 0 0, .slice none 0 0] 41)
theorem three_new (w : World) (x y z : Value) : Grow w (W0 w x y z) ∧ Blk (W0 w x y z) w.heap.size 28 [x, y, z] ∧ Blk (W0 w x y z) (w.heap.size + 1) 41 [.slice none 0 0, .slice none 0 0, .slice none 0 0] ∧ Blk (W0 w x y z) (w.heap.size + 1 + 1) 41 [.slice none 0 0, .slice none 0 0, .slice none 0 0] := by
  unfold W0
  have g1 : Grow w (w.alloc (.cells #[x, y, z] 28)) := (Kept.refl _ _).alloc _
  have b1 := Blk.new w 28 [x, y, z]
  have z1 : (w.alloc (.cells #[x, y, z] 28)).heap.size = w.heap.size + 1 := by simp
  generalize w.alloc (.cells #[x, y, z] 28) = u at *
  obtain ⟨g2, b2, b3⟩ := two_new u
  rw [z1] at b2 b3
  exact ⟨g1.trans g2, b1.grow g2, b2, b3⟩
section
variable {w x1 x2 x3 x4 : World} {d j m2 n k : Nat} {T : Nat → Bool} {Bs : Nat → List Int} {H : Nat → Nat → Int} {vT vB vH : Value} {q cp : Nat → Nat}
structure AppT (d j : Nat) (T : Nat → Bool) (vT : Value) (x1 x2 : World) (g c : Nat) : Prop where
  o : OR x2 g 4 1 c (j + 1) (joined (tcell T) (fun _ => .bool (T j)) (j * 1))
  k : Kept (fun k => vT.ownBlock = some k) x1 x2
  b : vT.ownBlock = some g ∨ g = x1.heap.size
structure AppB (d j : Nat) (Bs : Nat → List Int) (vB : Value) (x3 x4 : World) (g c : Nat) : Prop where
  o : OR x4 g 9 1 c (j + 1) (joined (bcell Bs) (fun _ => .string (strOfNums (Bs j))) (j * 1))
  k : Kept (fun k => vB.ownBlock = some k) x3 x4
  b : vB.ownBlock = some g ∨ g = x3.heap.size
theorem app_T (h : Mk1 w d j T Bs vT vB) (g1 : Grow w x1) (hj : j ≤ 48) {r : Nat} (hx : x1.cell? ⟨r, 0, none⟩ = some (.bool (T j))) :
    ∃ g c x2, (∀ ty, (Builtin.append_ #[24, 24] ty #[vT, .slice (some ⟨r, 0, none⟩) 1 1]).run Try.prog x1 = .ok (.slice (some ⟨g, 0, none⟩) (j + 1) c) x2) ∧ AppT d j T vT x1 x2 g c := by
  obtain ⟨i0, hi0, hz0, hz1, hz2⟩ := info_parts PmK.infoclone_bools
  obtain ⟨g2, cap2, x2, hr2, ho2, hk2, hb2⟩ := append_or (P := Try.prog) 24 0 i0 _ 1 Try.underlying24 hi0 hz0 hz1 hz2 rfl (by omega) (os_gr h.T g1) (by omega) (by omega) r 1 (u := fun _ => .bool (T j)) (fun q hq => by obtain rfl : q = 0 := (by omega); exact hx) (fun q hq => rfl)
  exact ⟨g2, cap2, x2, fun ty => hr2, ho2, hk2, hb2⟩
theorem app_B (h : Mk1 w d j T Bs vT vB) (g1 : Grow w x1) (hk : Kept (fun k => vT.ownBlock = some k) x1 x2) (g3 : Grow x2 x3) (hj : j ≤ 48) {r : Nat} (hx : x3.cell? ⟨r, 0, none⟩ = some (.string (strOfNums (Bs j)))) :
    ∃ g c x4, (∀ ty, (Builtin.append_ #[39, 39] ty #[vB, .slice (some ⟨r, 0, none⟩) 1 1]).run Try.prog x3 = .ok (.slice (some ⟨g, 0, none⟩) (j + 1) c) x4) ∧ AppB d j Bs vB x3 x4 g c := by
  obtain ⟨i0, hi0, hz0, hz1, hz2⟩ := info_parts inforows_str
  have hb3 : OS x3 (d + 1 ≤ ·) vB 9 1 j (bcell Bs) := os_gr (os_keep (os_gr h.B g1) hk fun k e e2 => h.dis k e2 e) g3
  obtain ⟨g4, cap4, x4, hr4, ho4, hk4, hb4⟩ := append_or (P := Try.prog) 39 0 i0 _ 16 Try.underlying39 hi0 hz0 hz1 hz2 rfl (by omega) hb3 (by omega) (by omega) r 1 (u := fun _ => .string (strOfNums (Bs j))) (fun q hq => by obtain rfl : q = 0 := (by omega); exact hx) (fun q hq => rfl)
  exact ⟨g4, cap4, x4, fun ty => hr4, ho4, hk4, hb4⟩
/-- What the walk wants at the end of a page's round. -/
def Two (w x4 : World) (d j gT cT gB cB : Nat) (T : Nat → Bool) (Bs : Nat → List Int) (vT vB : Value) : Prop :=
  Mk1 ((x4.setCell ⟨d, 0, none⟩ (.slice (some ⟨gT, 0, none⟩) (j + 1) cT)).setCell ⟨d, 1, none⟩ (.slice (some ⟨gB, 0, none⟩) (j + 1) cB)) d (j + 1) T Bs (.slice (some ⟨gT, 0, none⟩) (j + 1) cT) (.slice (some ⟨gB, 0, none⟩) (j + 1) cB) ∧
    Kept (d ≤ ·) w ((x4.setCell ⟨d, 0, none⟩ (.slice (some ⟨gT, 0, none⟩) (j + 1) cT)).setCell ⟨d, 1, none⟩ (.slice (some ⟨gB, 0, none⟩) (j + 1) cB)) ∧
    Blk x4 d 41 [vT, vB, .slice none 0 0]
theorem two_end {gT cT gB cB : Nat} (h : Mk1 w d j T Bs vT vB) (g1 : Grow w x1) (hT : AppT d j T vT x1 x2 gT cT) (g3 : Grow x2 x3) (hB : AppB d j Bs vB x3 x4 gB cB) : Two w x4 d j gT cT gB cB T Bs vT vB :=
  h.two g1 hT.o rfl hT.k hT.b g3 hB.o rfl hB.k hB.b
end
section
variable {w : World} {AT AB AH : Option Addr} {cT cB cH : Nat} {s : St}
/-- What the first look asks. -/
def okN (s : St) : Prop := ((1 ≤ s.nT ∧ s.nT ≤ 48) ∧ 1 ≤ s.nH ∧ s.nH ≤ 6) ∧ s.nB = s.nT
def F1 (s : St) (w0 : World) (d j : Nat) (wr : World) : Prop := ∃ vT vB, Mk1 wr d j s.T s.md.B vT vB ∧ Kept (d ≤ ·) w0 wr ∧ ∀ i, i < j → s.okB i
def F2 (s : St) (w0 : World) (d m2 n k : Nat) (wr : World) : Prop := ∃ vT vB vH q cp, Mk2 wr d m2 n k s.T s.md.B s.md.H vT vB vH q cp ∧ Kept (d ≤ ·) w0 wr ∧ m2 ≤ wr.heap.size ∧ ∀ i, i < k → s.okH i
set_option maxRecDepth 100000 in
set_option maxHeartbeats 8000000 in
theorem from_any (hp : Parts w AT cT AB cB AH cH s) : Calls Try.prog 14 #[stv AT cT AB cB AH cH s] w (FromP s w) := by
  unfold stv
  obtain ⟨hg, hs, hb, hd⟩ := three_new w (.slice AT s.nT cT) (.slice AB s.nB cB) (.slice AH s.nH cH)
  unfold W0 at hg hs hb hd
  have HG0 := Lib.hid hg
  have HS0 := Lib.hid hs
  have HB0 := Lib.hid hb
  have HD0 := Lib.hid hd
  have HP := Lib.hid hp
  have HBY := Lib.hid hp.byt
  obtain ⟨P, hP⟩ : ∃ P, P = FromP s w := ⟨_, rfl⟩
  have HPP := Lib.hid hP
  rw [← hP]
  clear hg hs hb hd hp hP
  go_enter Try.func14, Try.ntmps14
  go_upto_region 2 with (fail)
  generalize ((w.alloc (.cells #[.slice AT s.nT cT, .slice AB s.nB cB, .slice AH s.nH cH] 28)).alloc (.cells #[.slice none 0 0, .slice none 0 0, .slice none 0 0] 41)).alloc (.cells #[.slice none 0 0, .slice none 0 0, .slice none 0 0] 41) = w0 at HG0 HS0 HB0 HD0 ⊢
  obtain ⟨d, hdd⟩ : ∃ d, d = w.heap.size + 1 + 1 := ⟨_, rfl⟩
  rw [← hdd] at HD0 ⊢
  obtain ⟨B, hB⟩ : ∃ B, B = w.heap.size + 1 := ⟨_, rfl⟩
  rw [← hB] at HB0 hdd ⊢
  obtain ⟨C, hC⟩ : ∃ C, C = w.heap.size := ⟨_, rfl⟩
  rw [← hC] at HS0 hB ⊢
  have HBD : Hid (C = w.heap.size ∧ B = C + 1 ∧ d = B + 1) := ⟨hC, hB, hdd⟩
  clear hB hdd hC
  have s0 := HS0.out.cell 0
  have s1 := HS0.out.cell 1
  have s2 := HS0.out.cell 2
  simp only [List.getElem?_cons_zero, List.getElem?_cons_succ] at s0 s1 s2
  go_upto_region 3 with (fail)
  go_cut [38] from 14 to 38 (fun v wx => ∃ b : Bool, v = .bool b ∧ (b = false ↔ okN s) ∧ w0 = wx)
  case first =>
    by_cases h1 : (s.nT : Int) < 1
    · have HN : Hid (¬ okN s) := fun h => by have := h.1.1; omega
      go_wp2
      go_meet
      exact ⟨true, rfl, ⟨fun e => Bool.noConfusion e, fun h => absurd h HN.out⟩, rfl⟩
    have h1' : 1 ≤ (s.nT : Int) := by omega
    by_cases h2 : 48 < (s.nT : Int)
    · have HN : Hid (¬ okN s) := fun h => by have := h.1.1; omega
      clear h1
      go_wp2
      go_meet
      exact ⟨true, rfl, ⟨fun e => Bool.noConfusion e, fun h => absurd h HN.out⟩, rfl⟩
    have h2' : (s.nT : Int) ≤ 48 := by omega
    by_cases h3 : s.nB = s.nT
    · by_cases h4 : (s.nH : Int) < 1
      · have HN : Hid (¬ okN s) := fun h => by have := h.1.2; omega
        clear h1 h2
        rw [h3] at s1
        clear h3
        go_wp2
        go_meet
        exact ⟨true, rfl, ⟨fun e => Bool.noConfusion e, fun h => absurd h HN.out⟩, rfl⟩
      have h4' : 1 ≤ (s.nH : Int) := by omega
      by_cases h5 : 6 < (s.nH : Int)
      · have HN : Hid (¬ okN s) := fun h => by have := h.1.2; omega
        clear h1 h2 h4
        rw [h3] at s1
        clear h3
        go_wp2
        go_meet
        exact ⟨true, rfl, ⟨fun e => Bool.noConfusion e, fun h => absurd h HN.out⟩, rfl⟩
      have h5' : (s.nH : Int) ≤ 6 := by omega
      have HN : Hid (okN s) := ⟨⟨by omega, by omega⟩, h3⟩
      clear h1 h2 h4 h5
      rw [h3] at s1
      clear h3
      go_wp2
      go_meet
      exact ⟨false, by simp; omega, ⟨fun _ => HN.out, fun _ => rfl⟩, rfl⟩
    · have HN : Hid (¬ okN s) := fun h => h3 h.2
      have hz : ((s.nB : Int) != (s.nT : Int)) = true := by simp; omega
      have hz2 : ((s.nB : Int) == (s.nT : Int)) = false := by simp; omega
      have hz3 : ¬ (s.nB : Int) = (s.nT : Int) := by omega
      clear h1 h2 h3
      go_wp2
      go_meet
      exact ⟨true, rfl, ⟨fun e => Bool.noConfusion e, fun h => absurd h HN.out⟩, rfl⟩
  case rest =>
    obtain ⟨b, rfl, hb, rfl⟩ := hcut
    have t0 := HB0.out.cell 0
    have t1 := HB0.out.cell 1
    have t2 := HB0.out.cell 2
    have tf := HB0.out.frozen
    have c0 := HD0.out.cell 0
    have c1 := HD0.out.cell 1
    have c2 := HD0.out.cell 2
    simp only [List.getElem?_cons_zero, List.getElem?_cons_succ] at t0 t1 t2 c0 c1 c2
    cases b with
    | true =>
      have HNM : Hid (¬ s.may) := fun h => by have := hb.2 ⟨h.1, h.2.1⟩; cases this
      clear hb
      go_wp2
      have hb5 := ((HB0.out.set 0 (.slice none 0 0)).set 1 (.slice none 0 0)).set 2 (.slice none 0 0)
      rw [HPP.out]
      exact ret_Sb rfl rfl hb5 rfl (FromP.no HNM.out (HG0.out.then (((kept_set w0 B 0 _).trans (kept_set _ B 1 _)).trans (kept_set _ B 2 _)) fun x hx e => by have e : x = B := e; have := HBD.out; omega))
    | false =>
      have hN := hb.1 rfl
      have HN := Lib.hid hN
      have hnT : (s.nT : Int) ≤ 48 := by have := hN.1; omega
      have hnH : (s.nH : Int) ≤ 6 := by have := hN.1; omega
      obtain ⟨fb, fo, fe, hf⟩ := flags_form HP.out.T
      obtain ⟨rb, ro, re, hr⟩ := lists_form HP.out.B
      obtain ⟨qb, qo, qe, hq⟩ := lists_form HP.out.H
      obtain rfl := fe (by have := hN.1; omega)
      obtain rfl := re (by have := hN.1; have := hN.2; omega)
      obtain rfl := qe (by have := hN.1; omega)
      have HF := Lib.hid hf
      have HR := Lib.hid hr
      have HQ := Lib.hid hq
      obtain ⟨n, hnn⟩ : ∃ n, n = s.nT := ⟨_, rfl⟩
      have hnB : s.nB = n := hN.2.trans hnn.symm
      rw [← hnn, hnB] at HS0
      rw [hnB] at s1
      rw [← hnn] at s0 hnT ⊢
      have HNN : Hid (n = s.nT ∧ s.nB = n) := ⟨hnn, hnB⟩
      clear hb hN fe re qe hf hr hq t0 t1 t2 tf c0 c1 c2 hnn hnB
      go_wp2
      clear s0 s1 s2
      go_loopg [6] n (fun gx i wr => ∃ j : Nat, j + gx = n ∧ i = .int .i64 (j : Int) ∧ F1 s w0 d j wr)
      case atStart => exact ⟨0, by omega, rfl, _, _, Mk1.nil HD0.out, Kept.refl _ _, fun i hi => absurd hi (Nat.not_lt_zero i)⟩
      case round =>
        obtain ⟨j, hg, rfl, vT, vB, hmk, hgr, hok⟩ := hrel
        have HG := Lib.hid hg
        have HMK := Lib.hid hmk
        have HGR := Lib.hid hgr
        have HOK := Lib.hid hok
        clear hg hmk hgr hok
        by_cases hj : j < n
        · have hjz : (j : Int) < (n : Int) := by omega
          have HJ := Lib.hid hj
          have hgw : Grow w wr := HG0.out.then HGR.out fun x hx (e : d ≤ x) => by have := HBD.out; omega
          have hsb := HS0.out.kept HGR.out (fun (e : d ≤ C) => by have := HBD.out; omega)
          have HSB := Lib.hid hsb
          have s0 := hsb.cell 0
          have s1 := hsb.cell 1
          simp only [List.getElem?_cons_zero, List.getElem?_cons_succ] at s0 s1
          obtain ⟨A', c', r1, hsl⟩ := HR.out j (by have := HNN.out; omega)
          have r0 := hgw.cellN r1 id
          have f0 := hgw.cellN (HF.out j (by have := HNN.out; omega)) id
          have k1 := (sl_grow hsl hgw).str (P := Try.prog) 22 9 5 Try.underlying22 Try.underlying5 Try.underlying9 c'
          obtain ⟨sx, hsx⟩ : ∃ sx, sx = strOfNums (s.B j) := ⟨_, rfl⟩
          have hsz : sx.size = (s.B j).length := by rw [hsx]; exact str_size _
          rw [← hsx] at k1
          have HSX := Lib.hid hsx
          have HSZ := Lib.hid hsz
          have HSM : Hid (sx = strOfNums (s.md.B j)) := by show sx = strOfNums (if j < s.nT then s.B j else zeros); rw [if_pos (by have := HNN.out; omega)]; exact hsx
          have HBJ := Lib.hid (HBY.out j (by have := HNN.out; omega))
          obtain ⟨l, hl⟩ : ∃ l, l = (s.B j).length := ⟨_, rfl⟩
          rw [← hl] at r0 k1
          have HL := Lib.hid hl
          clear hsx hsz hl hsl r1 hgw hsb hj
          go_upto_region 9 with (fail)
          clear k1 r0
          go_cut [66] from 51 to 66 (fun v wx => ∃ b : Bool, v = .bool b ∧ (b = false ↔ s.okB j) ∧ Grow wr wx)
          case first =>
            by_cases h16 : l = 16
            · have e16 : (sx.size : Int) = 16 := by have := HSZ.out; have := HL.out; omega
              have H16 : Hid ((s.B j).length = 16) := HL.out.symm.trans h16
              clear h16
              cases hT : s.T j with
              | true =>
                have HTJ := Lib.hid hT
                rw [hT] at f0
                clear hT
                go_wp2
                go_meet
                exact ⟨false, rfl, ⟨fun _ => ⟨H16.out, fun h => by have h2 := HTJ.out; rw [h] at h2; cases h2⟩, fun _ => rfl⟩, Kept.refl _ _⟩
              | false =>
                have HTJ := Lib.hid hT
                rw [hT] at f0
                clear hT
                have hcmp := str_eq HBJ.out zeros_bytes
                rw [← HSX.out] at hcmp
                have HZ : Hid (∀ wx, Calls Try.prog 31 #[] wx fun e w' => e = .returned (.string (strOfNums zeros)) ∧ Grow wx w') := zeros_any
                generalize strOfNums zeros = zx at hcmp HZ
                by_cases hz : s.B j = zeros
                · have heq : (sx.toList == zx.toList) = true := by rw [hcmp]; simp [hz]
                  have hne : (sx.toList != zx.toList) = false := by simp [bne, heq]
                  have HZQ := Lib.hid hz
                  clear hz hcmp
                  go_wp2_with (go_at_call 31; (with_reducible refine (HZ.out _).mono ?_); rintro e wz ⟨rfl, hgz⟩; have HGZ := Lib.hid hgz; clear hgz)
                  go_meet
                  exact ⟨false, rfl, ⟨fun _ => ⟨H16.out, fun _ c hc => by rw [HZQ.out] at hc; exact (List.mem_replicate.1 hc).2⟩, fun _ => rfl⟩, HGZ.out⟩
                · have heq : (sx.toList == zx.toList) = false := by rw [hcmp]; simp [hz]
                  have hne : (sx.toList != zx.toList) = true := by simp [bne, heq]
                  have HZQ := Lib.hid hz
                  clear hz hcmp
                  go_wp2_with (go_at_call 31; (with_reducible refine (HZ.out _).mono ?_); rintro e wz ⟨rfl, hgz⟩; have HGZ := Lib.hid hgz; clear hgz)
                  go_meet
                  exact ⟨true, rfl, ⟨fun e => Bool.noConfusion e, fun h => absurd (by have h2 := h.2 HTJ.out; unfold zeros; rw [← H16.out]; exact List.eq_replicate_iff.2 ⟨rfl, h2⟩) HZQ.out⟩, HGZ.out⟩
            · have e16 : ¬ (sx.size : Int) = 16 := by have := HSZ.out; have := HL.out; omega
              have b16 : ((sx.size : Int) == 16) = false := by simp [e16]
              have d16 : ((sx.size : Int) != 16) = true := by simp [e16]
              have H16 : Hid (¬ (s.B j).length = 16) := fun e => h16 (HL.out.trans e)
              clear h16
              go_wp2
              go_meet
              exact ⟨true, rfl, ⟨fun e => Bool.noConfusion e, fun h => absurd h.1 H16.out⟩, Kept.refl _ _⟩
          case rest =>
            obtain ⟨b, rfl, hb, hgx⟩ := hcut
            have HGX := Lib.hid hgx
            clear hgx s0 s1 f0
            cases b with
            | true =>
              have HNB : Hid (¬ s.okB j) := fun h => by have := hb.2 h; cases this
              clear hb
              have hbx := HB0.out.kept (HGR.out.trans (Grow.kept HGX.out)) (fun (e : d ≤ B) => by have := HBD.out; omega)
              have HBX := Lib.hid hbx
              have HGZ : Hid (Grow w wc) := HG0.out.then (HGR.out.trans (Grow.kept HGX.out)) fun x hx (e : d ≤ x) => by have := HBD.out; omega
              have HNM : Hid (¬ s.may) := fun h => HNB.out (h.2.2.1 j (by have := HNN.out; have := HJ.out; omega))
              have t0 := hbx.cell 0
              have t1 := hbx.cell 1
              have t2 := hbx.cell 2
              have tf := hbx.frozen
              simp only [List.getElem?_cons_zero, List.getElem?_cons_succ] at t0 t1 t2
              clear hbx
              go_wp2
              have hb5 := ((HBX.out.set 0 (.slice none 0 0)).set 1 (.slice none 0 0)).set 2 (.slice none 0 0)
              rw [HPP.out]
              exact ret_Sb rfl rfl hb5 rfl (FromP.no HNM.out (HGZ.out.then (((kept_set wc B 0 _).trans (kept_set _ B 1 _)).trans (kept_set _ B 2 _)) fun x hx e => by have e : x = B := e; have := HBD.out; omega))
            | false =>
              have HOB := Lib.hid (hb.1 rfl)
              clear hb
              obtain ⟨AT', kT, rfl⟩ := PmR.os_form HMK.out.T
              obtain ⟨AB', kB, rfl⟩ := PmR.os_form HMK.out.B
              have HMD := Lib.hid (HMK.out.grow (HGX.out.drew))
              have HKD : Hid (Kept (d ≤ ·) w0 wc.drew) := HGR.out.trans (Grow.kept HGX.out.drew)
              have HGWD : Hid (Grow w wc.drew) := HG0.out.then HKD.out fun x hx (e : d ≤ x) => by have := HBD.out; omega
              have HOT : Hid (∀ k, (Value.slice AT' j kT).ownBlock = some k → d + 1 ≤ k) := fun k e => (os_in HMK.out.T e).1
              have HOO : Hid (∀ k, (Value.slice AB' j kB).ownBlock = some k → d + 1 ≤ k) := fun k e => (os_in HMK.out.B e).1
              have HND : Hid (∀ x, x ≤ d → ¬ ((Value.slice AT' j kT).ownBlock = some x ∨ (Value.slice AB' j kB).ownBlock = some x)) := fun x hx e => e.elim (fun e => by have := HOT.out x e; omega) (fun e => by have := HOO.out x e; omega)
              have q0 := up_cell (F := fun k => (Value.slice AT' j kT).ownBlock = some k ∨ (Value.slice AB' j kB).ownBlock = some k) (w := wc.drew) (p := ⟨d, 0, none⟩) (HMD.out.bx.cell 0) (HND.out d (Nat.le_refl _))
              have q1 := up_cell (F := fun k => (Value.slice AT' j kT).ownBlock = some k ∨ (Value.slice AB' j kB).ownBlock = some k) (w := wc.drew) (p := ⟨d, 1, none⟩) (HMD.out.bx.cell 1) (HND.out d (Nat.le_refl _))
              have q2 := up_cell (F := fun k => (Value.slice AT' j kT).ownBlock = some k ∨ (Value.slice AB' j kB).ownBlock = some k) (w := wc.drew) (p := ⟨C, 0, none⟩) ((HSB.out.grow HGX.out.drew).cell 0) (HND.out C (by have := HBD.out; omega))
              have q3 := up_cell (F := fun k => (Value.slice AT' j kT).ownBlock = some k ∨ (Value.slice AB' j kB).ownBlock = some k) (w := wc.drew) (p := ⟨fb, fo + j, none⟩) (HGWD.out.cellN (HF.out j (by have := HNN.out; have := HJ.out; omega)) id) (HND.out fb (by have := HBD.out; have h := block_lt_of_cell (HF.out j (by have := HNN.out; have := HJ.out; omega)); have h : fb < w.heap.size := h; omega))
              go_upto_region 11 with (fail)
              refine wp_region_tree (Kept fun k => (Value.slice AT' j kT).ownBlock = some k ∨ (Value.slice AB' j kB).ownBlock = some k) (Kept fun k => ((Value.slice AT' j kT).ownBlock = some k ∨ (Value.slice AB' j kB).ownBlock = some k) ∨ k = d) (kept_refl _) (kept_trans _) (kept_refl _) (kept_trans _) (fun _ _ h => h.mono fun _ _ x => .inl x) [15, 17]
                (.look false [11] (.two true [0, 1, 2, 3, 4, 5, 6, 9, 10] 7 (.two true [] 8 (.one true [14] 12 (.one true [] 13 (.one false [] 15 (.one false [16] 17 (.last false []))))) 12 (.one true [] 8 (.one true [14] 13 (.one false [] 15 (.one false [16] 17 (.last false [])))))) 12 (.one true [] 7 (.one true [] 8 (.one true [14] 13 (.one false [] 15 (.one false [16] 17 (.last false [])))))))) (by kernel_rfl) (by kernel_rfl) ?_
              generalize wc.drew = wd at HMD HKD HGWD q0 q1 q2 q3 ⊢
              refine tr_lookL fun K hK => ?_
              simp only [sel, List.map_cons, List.map_nil, List.getD_cons_succ, List.getD_cons_zero]
              repeat (go_big_quiet_step (fail))
              refine wpQuiet_nil (hK _ ?_)
              clear hK K
              refine tr_twoE fun K1 hK1 K2 hK2 => ?_
              simp only [sel, List.map_cons, List.map_nil, List.getD_cons_succ, List.getD_cons_zero]
              repeat (go_big_quiet_step (fail))
              refine wpQuiet_nil ⟨?_, ?_⟩
              · clear q0 q1 q2 q3 hK2 K2
                go_wp2
                refine norm_up (hK1 _ _ (Lr_early (by decide) ((Kept.refl _ _).alloc _)) ?_)
                clear hK1
                have HXT : Hid ((wd.alloc (.cells #[.bool (s.T j)] 4)).cell? ⟨wd.heap.size, 0, none⟩ = some (.bool (s.T j))) := cell_new1 _ _ _
                have HGT : Hid (Grow wd (wd.alloc (.cells #[.bool (s.T j)] 4))) := (Kept.refl _ _).alloc _
                have HZT : Hid ((wd.alloc (.cells #[.bool (s.T j)] 4)).heap.size = wd.heap.size + 1) := by show _ = _; simp
                generalize wd.alloc (.cells #[.bool (s.T j)] 4) = x1 at HXT HGT HZT ⊢
                obtain ⟨rT, hrT⟩ : ∃ r, r = wd.heap.size := ⟨_, rfl⟩
                rw [← hrT] at HXT HZT ⊢
                have HRT := Lib.hid hrT
                clear hrT
                refine tr_twoE fun K1 hK1 K2 hK2 => ?_
                simp only [sel, List.map_cons, List.map_nil, List.getD_cons_succ, List.getD_cons_zero]
                refine wpQuiet_nil ⟨?_, ?_⟩
                · clear hK2 K2
                  have HG1 : Hid (Grow wd x1) := HGT.out
                  obtain ⟨g2, cap2, x2, hr2, ha2⟩ := app_T HMD.out HG1.out (by have := HJ.out; have := HN.out.1; have := HNN.out; omega) HXT.out
                  have HR2 := Lib.hid hr2
                  have HA2 := Lib.hid ha2
                  clear hr2 ha2
                  go_wp2_with (at_builtin; refine Lib.wpList_append_run _ rfl _ _ _ _ rfl _ _ rfl rfl _ _ (HR2.out _) ?_)
                  refine norm_up (hK1 _ _ (Lr_early (by decide) (HA2.out.k.mono fun k _ e => .inl e)) ?_)
                  clear hK1
                  refine tr_oneE fun K hK => ?_
                  simp only [sel, List.map_cons, List.map_nil, List.getD_cons_succ, List.getD_cons_zero]
                  repeat (go_big_quiet_step (fail))
                  refine wpQuiet_nil ?_
                  go_wp2
                  refine norm_up (hK _ _ (Lr_early (by decide) ((Kept.refl _ _).alloc _)) ?_)
                  clear hK
                  have HXB : Hid ((x2.alloc (.cells #[.string sx] 9)).cell? ⟨x2.heap.size, 0, none⟩ = some (.string (strOfNums (s.md.B j)))) := by rw [← HSM.out]; exact cell_new1 _ _ _
                  have HGB : Hid (Grow x2 (x2.alloc (.cells #[.string sx] 9))) := (Kept.refl _ _).alloc _
                  generalize x2.alloc (.cells #[.string sx] 9) = x3 at HXB HGB ⊢
                  obtain ⟨rB, hrB⟩ : ∃ r, r = x2.heap.size := ⟨_, rfl⟩
                  rw [← hrB] at HXB ⊢
                  have HRB := Lib.hid hrB
                  clear hrB
                  refine tr_oneE fun K hK => ?_
                  simp only [sel, List.map_cons, List.map_nil, List.getD_cons_succ, List.getD_cons_zero]
                  refine wpQuiet_nil ?_
                  have HG3 : Hid (Grow x2 x3) := HGB.out
                  obtain ⟨g4, cap4, x4, hr4, ha4⟩ := app_B HMD.out HG1.out HA2.out.k HG3.out (by have := HJ.out; have := HN.out.1; have := HNN.out; omega) HXB.out
                  have HR4 := Lib.hid hr4
                  have HA4 := Lib.hid ha4
                  clear hr4 ha4
                  go_wp2_with (at_builtin; refine Lib.wpList_append_run _ rfl _ _ _ _ rfl _ _ rfl rfl _ _ (HR4.out _) ?_)
                  refine norm_up (hK _ _ (Lr_early (by decide) (HA4.out.k.mono fun k _ e => .inr e)) ?_)
                  clear hK
                  have HT2 := Lib.hid (two_end HMD.out HG1.out HA2.out HG3.out HA4.out)
                  have c0 := HT2.out.2.2.cell 0
                  simp only [List.getElem?_cons_zero] at c0
                  have f0 := HT2.out.2.2.frozen 0
                  have c1 := (HT2.out.2.2.set 0 (.slice (some ⟨g2, 0, none⟩) (j + 1) cap2)).cell 1
                  simp only [List.set_cons_zero, List.getElem?_cons_zero, List.getElem?_cons_succ] at c1
                  have f1 := (HT2.out.2.2.set 0 (.slice (some ⟨g2, 0, none⟩) (j + 1) cap2)).frozen 1
                  refine tr_oneL fun K hK => ?_
                  simp only [sel, List.map_cons, List.map_nil, List.getD_cons_succ, List.getD_cons_zero]
                  repeat (go_big_quiet_step (fail))
                  refine wpQuiet_nil ?_
                  go_wp2
                  refine norm_up (hK _ _ (Lr_late (by decide) ((kept_set _ _ _ _).mono fun k _ e => .inr e)) ?_)
                  clear hK K c0 f0
                  refine tr_oneL fun K hK => ?_
                  simp only [sel, List.map_cons, List.map_nil, List.getD_cons_succ, List.getD_cons_zero]
                  repeat (go_big_quiet_step (fail))
                  refine wpQuiet_nil ?_
                  go_wp2
                  refine norm_up (hK _ _ (Lr_late (by decide) ((kept_set _ _ _ _).mono fun k _ e => .inr e)) ?_)
                  clear hK K c1 f1
                  refine tr_lastL fun K hK => ?_
                  simp only [sel, List.map_nil]
                  refine wpQuiet_nil (hK _ ?_)
                  clear hK K
                  go_wp2
                  go_roundg (gk - 1)
                  case measure => have := HG.out; have := HJ.out; omega
                  case rel => exact ⟨j + 1, by have := HG.out; have := HJ.out; omega, by go_num, _, _, HT2.out.1, HKD.out.trans HT2.out.2.1, fun i hi => by
                    by_cases e : i = j
                    · subst e; exact HOB.out
                    · exact HOK.out i (by omega)⟩
                · clear hK1 K1
                  go_wp2
                  refine norm_up (hK2 _ _ (Lr_early (by decide) ((Kept.refl _ _).alloc _)) ?_)
                  clear hK2
                  have HXB : Hid ((x1.alloc (.cells #[.string sx] 9)).cell? ⟨x1.heap.size, 0, none⟩ = some (.string (strOfNums (s.md.B j)))) := by rw [← HSM.out]; exact cell_new1 _ _ _
                  have HGB : Hid (Grow x1 (x1.alloc (.cells #[.string sx] 9))) := (Kept.refl _ _).alloc _
                  generalize x1.alloc (.cells #[.string sx] 9) = x2 at HXB HGB ⊢
                  obtain ⟨rB, hrB⟩ : ∃ r, r = x1.heap.size := ⟨_, rfl⟩
                  rw [← hrB] at HXB ⊢
                  have HRB := Lib.hid hrB
                  clear hrB
                  refine tr_oneE fun K hK => ?_
                  simp only [sel, List.map_cons, List.map_nil, List.getD_cons_succ, List.getD_cons_zero]
                  refine wpQuiet_nil ?_
                  have HG1 : Hid (Grow wd x2) := HGT.out.trans HGB.out
                  obtain ⟨g2, cap2, x3, hr2, ha2⟩ := app_T HMD.out HG1.out (by have := HJ.out; have := HN.out.1; have := HNN.out; omega) (HGB.out.cellN HXT.out id)
                  have HR2 := Lib.hid hr2
                  have HA2 := Lib.hid ha2
                  clear hr2 ha2
                  go_wp2_with (at_builtin; refine Lib.wpList_append_run _ rfl _ _ _ _ rfl _ _ rfl rfl _ _ (HR2.out _) ?_)
                  refine norm_up (hK _ _ (Lr_early (by decide) (HA2.out.k.mono fun k _ e => .inl e)) ?_)
                  clear hK
                  refine tr_oneE fun K hK => ?_
                  simp only [sel, List.map_cons, List.map_nil, List.getD_cons_succ, List.getD_cons_zero]
                  repeat (go_big_quiet_step (fail))
                  refine wpQuiet_nil ?_
                  have HG3 : Hid (Grow x3 x3) := Kept.refl _ _
                  obtain ⟨g4, cap4, x4, hr4, ha4⟩ := app_B HMD.out HG1.out HA2.out.k HG3.out (by have := HJ.out; have := HN.out.1; have := HNN.out; omega) (HA2.out.k.cellN HXB.out fun e => by have e : _ = some rB := e; have := (os_in HMD.out.T e).2; have := HRB.out; have := HGT.out.size; omega)
                  have HR4 := Lib.hid hr4
                  have HA4 := Lib.hid ha4
                  clear hr4 ha4
                  go_wp2_with (at_builtin; refine Lib.wpList_append_run _ rfl _ _ _ _ rfl _ _ rfl rfl _ _ (HR4.out _) ?_)
                  refine norm_up (hK _ _ (Lr_early (by decide) (HA4.out.k.mono fun k _ e => .inr e)) ?_)
                  clear hK
                  have HT2 := Lib.hid (two_end HMD.out HG1.out HA2.out HG3.out HA4.out)
                  have c0 := HT2.out.2.2.cell 0
                  simp only [List.getElem?_cons_zero] at c0
                  have f0 := HT2.out.2.2.frozen 0
                  have c1 := (HT2.out.2.2.set 0 (.slice (some ⟨g2, 0, none⟩) (j + 1) cap2)).cell 1
                  simp only [List.set_cons_zero, List.getElem?_cons_zero, List.getElem?_cons_succ] at c1
                  have f1 := (HT2.out.2.2.set 0 (.slice (some ⟨g2, 0, none⟩) (j + 1) cap2)).frozen 1
                  refine tr_oneL fun K hK => ?_
                  simp only [sel, List.map_cons, List.map_nil, List.getD_cons_succ, List.getD_cons_zero]
                  repeat (go_big_quiet_step (fail))
                  refine wpQuiet_nil ?_
                  go_wp2
                  refine norm_up (hK _ _ (Lr_late (by decide) ((kept_set _ _ _ _).mono fun k _ e => .inr e)) ?_)
                  clear hK K c0 f0
                  refine tr_oneL fun K hK => ?_
                  simp only [sel, List.map_cons, List.map_nil, List.getD_cons_succ, List.getD_cons_zero]
                  repeat (go_big_quiet_step (fail))
                  refine wpQuiet_nil ?_
                  go_wp2
                  refine norm_up (hK _ _ (Lr_late (by decide) ((kept_set _ _ _ _).mono fun k _ e => .inr e)) ?_)
                  clear hK K c1 f1
                  refine tr_lastL fun K hK => ?_
                  simp only [sel, List.map_nil]
                  refine wpQuiet_nil (hK _ ?_)
                  clear hK K
                  go_wp2
                  go_roundg (gk - 1)
                  case measure => have := HG.out; have := HJ.out; omega
                  case rel => exact ⟨j + 1, by have := HG.out; have := HJ.out; omega, by go_num, _, _, HT2.out.1, HKD.out.trans HT2.out.2.1, fun i hi => by
                    by_cases e : i = j
                    · subst e; exact HOB.out
                    · exact HOK.out i (by omega)⟩
              · clear q0 q1 q2 q3 hK1 K1
                go_wp2
                refine norm_up (hK2 _ _ (Lr_early (by decide) ((Kept.refl _ _).alloc _)) ?_)
                clear hK2
                have HXB : Hid ((wd.alloc (.cells #[.string sx] 9)).cell? ⟨wd.heap.size, 0, none⟩ = some (.string (strOfNums (s.md.B j)))) := by rw [← HSM.out]; exact cell_new1 _ _ _
                have HGB : Hid (Grow wd (wd.alloc (.cells #[.string sx] 9))) := (Kept.refl _ _).alloc _
                generalize wd.alloc (.cells #[.string sx] 9) = x1 at HXB HGB ⊢
                obtain ⟨rB, hrB⟩ : ∃ r, r = wd.heap.size := ⟨_, rfl⟩
                rw [← hrB] at HXB ⊢
                have HRB := Lib.hid hrB
                clear hrB
                refine tr_oneE fun K hK => ?_
                simp only [sel, List.map_cons, List.map_nil, List.getD_cons_succ, List.getD_cons_zero]
                refine wpQuiet_nil ?_
                go_wp2
                refine norm_up (hK _ _ (Lr_early (by decide) ((Kept.refl _ _).alloc _)) ?_)
                clear hK
                have HXT : Hid ((x1.alloc (.cells #[.bool (s.T j)] 4)).cell? ⟨x1.heap.size, 0, none⟩ = some (.bool (s.T j))) := cell_new1 _ _ _
                have HGT : Hid (Grow x1 (x1.alloc (.cells #[.bool (s.T j)] 4))) := (Kept.refl _ _).alloc _
                have HZT : Hid ((x1.alloc (.cells #[.bool (s.T j)] 4)).heap.size = x1.heap.size + 1) := by show _ = _; simp
                generalize x1.alloc (.cells #[.bool (s.T j)] 4) = x2 at HXT HGT HZT ⊢
                obtain ⟨rT, hrT⟩ : ∃ r, r = x1.heap.size := ⟨_, rfl⟩
                rw [← hrT] at HXT HZT ⊢
                have HRT := Lib.hid hrT
                clear hrT
                refine tr_oneE fun K hK => ?_
                simp only [sel, List.map_cons, List.map_nil, List.getD_cons_succ, List.getD_cons_zero]
                refine wpQuiet_nil ?_
                have HG1 : Hid (Grow wd x2) := HGB.out.trans HGT.out
                obtain ⟨g2, cap2, x3, hr2, ha2⟩ := app_T HMD.out HG1.out (by have := HJ.out; have := HN.out.1; have := HNN.out; omega) HXT.out
                have HR2 := Lib.hid hr2
                have HA2 := Lib.hid ha2
                clear hr2 ha2
                go_wp2_with (at_builtin; refine Lib.wpList_append_run _ rfl _ _ _ _ rfl _ _ rfl rfl _ _ (HR2.out _) ?_)
                refine norm_up (hK _ _ (Lr_early (by decide) (HA2.out.k.mono fun k _ e => .inl e)) ?_)
                clear hK
                refine tr_oneE fun K hK => ?_
                simp only [sel, List.map_cons, List.map_nil, List.getD_cons_succ, List.getD_cons_zero]
                repeat (go_big_quiet_step (fail))
                refine wpQuiet_nil ?_
                have HG3 : Hid (Grow x3 x3) := Kept.refl _ _
                obtain ⟨g4, cap4, x4, hr4, ha4⟩ := app_B HMD.out HG1.out HA2.out.k HG3.out (by have := HJ.out; have := HN.out.1; have := HNN.out; omega) (HA2.out.k.cellN (HGT.out.cellN HXB.out id) fun e => by have e : _ = some rB := e; have := (os_in HMD.out.T e).2; have := HRB.out; omega)
                have HR4 := Lib.hid hr4
                have HA4 := Lib.hid ha4
                clear hr4 ha4
                go_wp2_with (at_builtin; refine Lib.wpList_append_run _ rfl _ _ _ _ rfl _ _ rfl rfl _ _ (HR4.out _) ?_)
                refine norm_up (hK _ _ (Lr_early (by decide) (HA4.out.k.mono fun k _ e => .inr e)) ?_)
                clear hK
                have HT2 := Lib.hid (two_end HMD.out HG1.out HA2.out HG3.out HA4.out)
                have c0 := HT2.out.2.2.cell 0
                simp only [List.getElem?_cons_zero] at c0
                have f0 := HT2.out.2.2.frozen 0
                have c1 := (HT2.out.2.2.set 0 (.slice (some ⟨g2, 0, none⟩) (j + 1) cap2)).cell 1
                simp only [List.set_cons_zero, List.getElem?_cons_zero, List.getElem?_cons_succ] at c1
                have f1 := (HT2.out.2.2.set 0 (.slice (some ⟨g2, 0, none⟩) (j + 1) cap2)).frozen 1
                refine tr_oneL fun K hK => ?_
                simp only [sel, List.map_cons, List.map_nil, List.getD_cons_succ, List.getD_cons_zero]
                repeat (go_big_quiet_step (fail))
                refine wpQuiet_nil ?_
                go_wp2
                refine norm_up (hK _ _ (Lr_late (by decide) ((kept_set _ _ _ _).mono fun k _ e => .inr e)) ?_)
                clear hK K c0 f0
                refine tr_oneL fun K hK => ?_
                simp only [sel, List.map_cons, List.map_nil, List.getD_cons_succ, List.getD_cons_zero]
                repeat (go_big_quiet_step (fail))
                refine wpQuiet_nil ?_
                go_wp2
                refine norm_up (hK _ _ (Lr_late (by decide) ((kept_set _ _ _ _).mono fun k _ e => .inr e)) ?_)
                clear hK K c1 f1
                refine tr_lastL fun K hK => ?_
                simp only [sel, List.map_nil]
                refine wpQuiet_nil (hK _ ?_)
                clear hK K
                go_wp2
                go_roundg (gk - 1)
                case measure => have := HG.out; have := HJ.out; omega
                case rel => exact ⟨j + 1, by have := HG.out; have := HJ.out; omega, by go_num, _, _, HT2.out.1, HKD.out.trans HT2.out.2.1, fun i hi => by
                  by_cases e : i = j
                  · subst e; exact HOB.out
                  · exact HOK.out i (by omega)⟩
        · obtain rfl : j = n := by have := HG.out; omega
          clear hj HG
          obtain ⟨wq, rfl⟩ : ∃ wq, wq = wr := ⟨_, rfl⟩
          have HGO := Lib.hid (HMK.out.go (H := s.md.H))
          go_wp2
          obtain ⟨m2, hm2⟩ : ∃ m2, m2 = wq.heap.size := ⟨_, rfl⟩
          have HM2 := Lib.hid hm2
          rw [← hm2] at HGO
          clear hm2
          go_loopg [8] s.nH (fun gx i wr => ∃ k : Nat, k + gx = s.nH ∧ i = .int .i64 (k : Int) ∧ F2 s w0 d m2 j k wr)
          case atStart => exact ⟨0, by omega, rfl, _, _, _, _, _, HGO.out, HGR.out, by have := HM2.out; omega, fun i hi => absurd hi (Nat.not_lt_zero i)⟩
          case round =>
            clear HMK HGR HGO
            obtain ⟨k, hg, rfl, vT, vB, vH, q, cp, hmk, hgr, hle, hok2⟩ := hrel
            have HG := Lib.hid hg
            have HMK := Lib.hid hmk
            have HGR := Lib.hid hgr
            have HLE := Lib.hid hle
            have HOK2 := Lib.hid hok2
            clear hg hmk hgr hle hok2
            have hgw : Grow w wr := HG0.out.then HGR.out fun x hx (e : d ≤ x) => by have := HBD.out; omega
            have hsb := HS0.out.kept HGR.out (fun (e : d ≤ C) => by have := HBD.out; omega)
            have HSB := Lib.hid hsb
            have s0 := hsb.cell 0
            have s2 := hsb.cell 2
            simp only [List.getElem?_cons_zero, List.getElem?_cons_succ] at s0 s2
            clear hsb
            by_cases hj : k < s.nH
            · have hjz : (k : Int) < (s.nH : Int) := by omega
              have HJ := Lib.hid hj
              obtain ⟨A', c', r1, hsl⟩ := HQ.out k hj
              have r0 := hgw.cellN r1 id
              by_cases h6 : (s.H k).length = 6
              · have H6 := Lib.hid h6
                obtain ⟨ib, io, rfl, hib, hrw⟩ := hsl.at_ (by omega)
                rw [h6] at r0
                have HRW : Hid (∀ y, y < 6 → wr.cell? ⟨ib, io + y, none⟩ = some (.int .i64 ((s.H k).getD y 0))) := fun y hy => hgw.cellN (hrw y (by omega)) id
                have HGW0 := Lib.hid hgw
                obtain ⟨wo, rfl⟩ : ∃ wo, wo = wr := ⟨_, rfl⟩
                obtain ⟨go, rfl⟩ : ∃ go, go = gk := ⟨_, rfl⟩
                clear hsl hrw h6 hgw hj r1 hib
                go_wp2
                clear r0 s0 s2
                go_loopg [10] 6 (fun gx i wr => ∃ t : Nat, t + gx = 6 ∧ i = .int .i64 (t : Int) ∧ Grow wo wr ∧ ∀ y, y < t → s.okP ((s.H k).getD y 0))
                case atStart => exact ⟨0, by omega, rfl, Kept.refl _ _, fun i hi => absurd hi (Nat.not_lt_zero i)⟩
                case round =>
                  obtain ⟨t, hg, rfl, hgr2, hop⟩ := hrel
                  have HG2 := Lib.hid hg
                  have HGR2 := Lib.hid hgr2
                  have HOP := Lib.hid hop
                  have HG3 := Lib.hid hg
                  clear hg hgr2 hop
                  by_cases ht : t < 6
                  · have htz : (t : Int) < 6 := by omega
                    have HT6 := Lib.hid ht
                    have HGW : Hid (Grow w wr) := HGW0.out.trans HGR2.out
                    have rx := HGR2.out.cellN (HRW.out t ht) id
                    have s0 := (HSB.out.grow HGR2.out).cell 0
                    simp only [List.getElem?_cons_zero] at s0
                    obtain ⟨x, hx⟩ : ∃ x, x = (s.H k).getD t 0 := ⟨_, rfl⟩
                    rw [← hx] at rx
                    have HX := Lib.hid hx
                    clear hx ht
                    clear HG3
                    go_upto_region 21 with (fail)
                    go_cut [136] from 106 to 136 (fun v wx => ∃ b : Bool, v = .bool b ∧ (b = false ↔ s.okP x) ∧ Grow wr wx)
                    case first =>
                      have q1 := up_cell (F := fun _ => False) (w := wr.drew) (p := ⟨ib, io + t, none⟩) rx id
                      have q2 := up_cell (F := fun _ => False) (w := wr.drew) (p := ⟨C, 0, none⟩) s0 id
                      clear rx s0
                      by_cases hx1 : x = -1
                      · have HOKX : Hid (s.okP x) := .inl hx1
                        subst hx1
                        refine wp_region_stages (Kept fun _ => False) (kept_refl _) (kept_trans _) [] [0, 1, 2, 3, 4, 5, 6, 7, 8, 9, 10, 11, 12, 13, 14, 15, 16, 17, 18, 19, 20, 21, 22, 23, 24, 25, 26, 27, 28, 29, 30] (by kernel_rfl) (by kernel_rfl) ?_
                        simp only [selSt, sel, List.map_cons, List.map_nil, List.getD_cons_succ, List.getD_cons_zero]
                        refine st_nil fun K hK => ?_
                        repeat (go_big_quiet_step (fail))
                        refine wpQuiet_nil (hK _ ?_)
                        clear hK K
                        go_wp2
                        go_meet
                        exact ⟨false, rfl, ⟨fun _ => HOKX.out, fun _ => rfl⟩, (Kept.refl _ wr).drew⟩
                      by_cases hx0 : x < 0
                      · have HOKX : Hid (¬ s.okP x) := fun h => by rcases h with e | e <;> omega
                        have b3 : decide (x < 0) = true := by simp [hx0]
                        have b1 : (x == -1) = false := by simp [hx1]
                        have b2 : (x != -1) = true := by simp [hx1]
                        refine wp_region_stages (Kept fun _ => False) (kept_refl _) (kept_trans _) [] [0, 1, 2, 3, 4, 5, 6, 7, 8, 9, 10, 11, 12, 13, 14, 15, 16, 17, 18, 19, 20, 21, 22, 23, 24, 25, 26, 27, 28, 29, 30] (by kernel_rfl) (by kernel_rfl) ?_
                        simp only [selSt, sel, List.map_cons, List.map_nil, List.getD_cons_succ, List.getD_cons_zero]
                        refine st_nil fun K hK => ?_
                        repeat (go_big_quiet_step (fail))
                        refine wpQuiet_nil (hK _ ?_)
                        clear hK K
                        go_wp2
                        go_meet
                        exact ⟨true, rfl, ⟨fun e => Bool.noConfusion e, fun h => absurd h HOKX.out⟩, (Kept.refl _ wr).drew⟩
                      have hx0' : 0 ≤ x := by omega
                      by_cases hxn : (j : Int) ≤ x
                      · have HOKX : Hid (¬ s.okP x) := fun h => by rcases h with e | e <;> (have := HNN.out; omega)
                        have b3 : decide (x < 0) = false := by simp; omega
                        have b4 : decide ((j : Int) ≤ x) = true := by simp [hxn]
                        have b1 : (x == -1) = false := by simp [hx1]
                        have b2 : (x != -1) = true := by simp [hx1]
                        clear hx0
                        refine wp_region_stages (Kept fun _ => False) (kept_refl _) (kept_trans _) [] [0, 1, 2, 3, 4, 5, 6, 7, 8, 9, 10, 11, 12, 13, 14, 15, 16, 17, 18, 19, 20, 21, 22, 23, 24, 25, 26, 27, 28, 29, 30] (by kernel_rfl) (by kernel_rfl) ?_
                        simp only [selSt, sel, List.map_cons, List.map_nil, List.getD_cons_succ, List.getD_cons_zero]
                        refine st_nil fun K hK => ?_
                        repeat (go_big_quiet_step (fail))
                        refine wpQuiet_nil (hK _ ?_)
                        clear hK K
                        go_wp2
                        go_meet
                        exact ⟨true, rfl, ⟨fun e => Bool.noConfusion e, fun h => absurd h HOKX.out⟩, (Kept.refl _ wr).drew⟩
                      obtain ⟨p, rfl⟩ := Int.eq_ofNat_of_zero_le hx0'
                      have hpn : (p : Int) < (j : Int) := by omega
                      have hpf := HGW.out.drew.cellN (HF.out p (by have := HNN.out; omega)) id
                      have b3 : decide ((p : Int) < 0) = false := by simp <;> omega
                      have b4 : decide ((j : Int) ≤ (p : Int)) = false := by simp <;> omega
                      have b5 : decide (j ≤ p) = false := by simp <;> omega
                      have b6 : ¬ j ≤ p := by omega
                      have b1 : ((p : Int) == -1) = false := by simp <;> omega
                      have b2 : ((p : Int) != -1) = true := by simp <;> omega
                      cases hT : s.T p with
                      | true =>
                        have HOKX : Hid (s.okP (p : Int)) := .inr ⟨by have := HNN.out; omega, by rw [Int.toNat_natCast]; exact hT⟩
                        rw [hT] at hpf
                        have q3 := up_cell (F := fun _ => False) (w := wr.drew) (p := ⟨fb, fo + p, none⟩) hpf id
                        clear hT hpf hxn hx0 hx0' hx1
                        refine wp_region_stages (Kept fun _ => False) (kept_refl _) (kept_trans _) [] [0, 1, 2, 3, 4, 5, 6, 7, 8, 9, 10, 11, 12, 13, 14, 15, 16, 17, 18, 19, 20, 21, 22, 23, 24, 25, 26, 27, 28, 29, 30] (by kernel_rfl) (by kernel_rfl) ?_
                        simp only [selSt, sel, List.map_cons, List.map_nil, List.getD_cons_succ, List.getD_cons_zero]
                        refine st_nil fun K hK => ?_
                        repeat (go_big_quiet_step (fail))
                        refine wpQuiet_nil (hK _ ?_)
                        clear hK K
                        go_wp2
                        go_meet
                        exact ⟨false, rfl, ⟨fun _ => HOKX.out, fun _ => rfl⟩, (Kept.refl _ wr).drew⟩
                      | false =>
                        have HOKX : Hid (¬ s.okP (p : Int)) := fun h => by
                          rcases h with e | e
                          · omega
                          · have h2 := e.2; rw [Int.toNat_natCast, hT] at h2; cases h2
                        rw [hT] at hpf
                        have q3 := up_cell (F := fun _ => False) (w := wr.drew) (p := ⟨fb, fo + p, none⟩) hpf id
                        clear hT hpf hxn hx0 hx0' hx1
                        refine wp_region_stages (Kept fun _ => False) (kept_refl _) (kept_trans _) [] [0, 1, 2, 3, 4, 5, 6, 7, 8, 9, 10, 11, 12, 13, 14, 15, 16, 17, 18, 19, 20, 21, 22, 23, 24, 25, 26, 27, 28, 29, 30] (by kernel_rfl) (by kernel_rfl) ?_
                        simp only [selSt, sel, List.map_cons, List.map_nil, List.getD_cons_succ, List.getD_cons_zero]
                        refine st_nil fun K hK => ?_
                        repeat (go_big_quiet_step (fail))
                        refine wpQuiet_nil (hK _ ?_)
                        clear hK K
                        go_wp2
                        go_meet
                        exact ⟨true, rfl, ⟨fun e => Bool.noConfusion e, fun h => absurd h HOKX.out⟩, (Kept.refl _ wr).drew⟩
                    case rest =>
                      obtain ⟨b, rfl, hb, hgx⟩ := hcut
                      have HGX := Lib.hid hgx
                      clear hgx s0 rx
                      cases b with
                      | true =>
                        have HNB : Hid (¬ s.okP ((s.H k).getD t 0)) := fun h => by rw [← HX.out] at h; have := hb.2 h; cases this
                        clear hb
                        have hbx := HB0.out.kept (HGR.out.trans (Grow.kept (HGR2.out.trans HGX.out))) (fun (e : d ≤ B) => by have := HBD.out; omega)
                        have HBX := Lib.hid hbx
                        have HGZ : Hid (Grow w wc) := HG0.out.then (HGR.out.trans (Grow.kept (HGR2.out.trans HGX.out))) fun x hx (e : d ≤ x) => by have := HBD.out; omega
                        have HNM : Hid (¬ s.may) := fun h => HNB.out ((h.2.2.2 k HJ.out).2 t HT6.out)
                        have t0 := hbx.cell 0
                        have t1 := hbx.cell 1
                        have t2 := hbx.cell 2
                        have tf := hbx.frozen
                        simp only [List.getElem?_cons_zero, List.getElem?_cons_succ] at t0 t1 t2
                        clear hbx
                        go_wp2
                        have hb5 := ((HBX.out.set 0 (.slice none 0 0)).set 1 (.slice none 0 0)).set 2 (.slice none 0 0)
                        rw [HPP.out]
                        exact ret_Sb rfl rfl hb5 rfl (FromP.no HNM.out (HGZ.out.then (((kept_set wc B 0 _).trans (kept_set _ B 1 _)).trans (kept_set _ B 2 _)) fun x hx e => by have e : x = B := e; have := HBD.out; omega))
                      | false =>
                        have HOX := Lib.hid (hb.1 rfl)
                        clear hb
                        go_wp2
                        go_roundg (gk - 1)
                        case measure => have := HG2.out; have := HT6.out; omega
                        case rel => exact ⟨t + 1, by have := HG2.out; have := HT6.out; omega, by go_num, HGR2.out.trans HGX.out, fun y hy => by
                          by_cases e : y = t
                          · subst e; rw [← HX.out]; exact HOX.out
                          · exact HOP.out y (by omega)⟩
                  · obtain rfl : t = 6 := by have := HG2.out; omega
                    clear ht HG2 HG3
                    have HOKH : Hid (s.okH k) := ⟨H6.out, fun y hy => HOP.out y hy⟩
                    obtain ⟨AH', kH, rfl⟩ := PmR.os_form HMK.out.H.out
                    have HMD := Lib.hid (HMK.out.grow (HGR2.out.drew))
                    have HKD : Hid (Kept (d ≤ ·) w0 wr.drew) := HGR.out.trans (Grow.kept HGR2.out.drew)
                    have HRWD : Hid (∀ y, y < 6 → wr.drew.cell? ⟨ib, io + y, none⟩ = some (.int .i64 ((s.H k).getD y 0))) := fun y hy => HGR2.out.drew.cellN (HRW.out y hy) id
                    have HLW : Hid (m2 ≤ wr.drew.heap.size ∧ d + 1 ≤ wr.drew.heap.size) := ⟨by have := HLE.out; have h := HGR2.out.drew.size; omega, HMD.out.bx.lt⟩
                    obtain ⟨b0, hb0⟩ : ∃ b0, b0 = wr.drew.heap.size := ⟨_, rfl⟩
                    have HB00 := Lib.hid hb0
                    have q0 := up_cell (F := fun x => (Value.slice AH' k kH).ownBlock = some x ∨ b0 ≤ x) (w := wr.drew) (p := ⟨d, 2, none⟩) (HMD.out.bx.cell 2) (fun (e : (Value.slice AH' k kH).ownBlock = some d ∨ b0 ≤ d) => by
                      rcases e with e | e
                      · have := (os_in HMD.out.H.out e).1; omega
                      · have := HMD.out.bx.lt; omega)
                    clear hb0
                    go_upto_region 23 with (fail)
                    refine wp_region_tree (Kept fun x => (Value.slice AH' k kH).ownBlock = some x ∨ b0 ≤ x) (Kept fun x => ((Value.slice AH' k kH).ownBlock = some x ∨ b0 ≤ x) ∨ x = d) (kept_refl _) (kept_trans _) (kept_refl _) (kept_trans _) (fun _ _ h => h.mono fun _ _ x => .inl x) [8]
                      (.one true [0, 1, 3] 2 (.one true [] 4 (.one true [] 5 (.one true [] 6 (.one false [7] 8 (.last false [])))))) (by kernel_rfl) (by kernel_rfl) ?_
                    generalize wr.drew = wd at HMD HKD HRWD HLW HB00 q0 ⊢
                    obtain ⟨v2, x2, hr2, ho2, hv2, hg2, hk2⟩ := MdCl.clone_run2 (P := Try.prog) (w := wd) (n := 6) (f := PmR.ncl .i64 (s.H k)) 36 3 _ 8 Try.underlying36 PmK.infoclone_ints rfl (by omega) ⟨ib, io, none⟩ (fun _ => ⟨ib, io, rfl, HRWD.out⟩) (fun _ _ => rfl) c' (by omega)
                    obtain ⟨r, cr, rfl, hor, hrin⟩ := ho2.form (by omega)
                    have HR2 := Lib.hid hr2
                    have HOR := Lib.hid hor
                    have HRI : Hid (wd.heap.size ≤ r) := hrin
                    have HG2 := Lib.hid hg2
                    have HK2 := Lib.hid hk2
                    clear hk2 hr2 ho2 hv2 hg2 hor hrin
                    refine tr_oneE fun K hK => ?_
                    simp only [sel, List.map_cons, List.map_nil, List.getD_cons_succ, List.getD_cons_zero]
                    repeat (go_big_quiet_step (fail))
                    refine wpQuiet_nil ?_
                    clear q0
                    go_wp2
                    refine norm_up (hK _ _ (Lr_early (by decide) ((Kept.refl _ _).alloc _)) ?_)
                    clear hK K
                    refine tr_oneE fun K hK => ?_
                    simp only [sel, List.map_cons, List.map_nil, List.getD_cons_succ, List.getD_cons_zero]
                    refine wpQuiet_nil ?_
                    go_wp2_with (at_builtin; refine Lib.wpList_append_run _ rfl _ _ _ _ rfl _ _ rfl rfl _ _ (HR2.out _) ?_)
                    refine norm_up (hK _ _ (Lr_early (by decide) (HK2.out.mono fun k _ (e : k = wd.heap.size) => .inr (by have := HB00.out; show b0 ≤ k; omega))) ?_)
                    clear hK K
                    refine tr_oneE fun K hK => ?_
                    simp only [sel, List.map_cons, List.map_nil, List.getD_cons_succ, List.getD_cons_zero]
                    refine wpQuiet_nil ?_
                    go_wp2
                    refine norm_up (hK _ _ (Lr_early (by decide) ((Kept.refl _ _).alloc _)) ?_)
                    clear hK K
                    have HX3 : Hid ((x2.alloc (.cells #[.slice (some ⟨r, 0, none⟩) 6 cr] 36)).cell? ⟨x2.heap.size, 0, none⟩ = some (.slice (some ⟨r, 0, none⟩) 6 cr)) := cell_new1 _ _ _
                    have HG3 : Hid (Grow wd (x2.alloc (.cells #[.slice (some ⟨r, 0, none⟩) 6 cr] 36))) := HG2.out.alloc _
                    have HO3 := Lib.hid (HOR.out.kept ((Kept.refl (fun _ => False) x2).alloc (.cells #[.slice (some ⟨r, 0, none⟩) 6 cr] 36)) id)
                    generalize x2.alloc (.cells #[.slice (some ⟨r, 0, none⟩) 6 cr] 36) = x3 at HX3 HG3 HO3 ⊢
                    have HM3 := Lib.hid (HMD.out.grow HG3.out)
                    obtain ⟨g4, cap4, x4, hr4, ho4, hk4, hb4⟩ := Gr.app HM3.out.H (by have := HJ.out; have := HN.out.1; omega) HX3.out
                    obtain ⟨hm5, hk5, hbx⟩ := HM3.out.push (by have := HLW.out; have := HG3.out.size; omega) HO3.out ⟨by have := HRI.out; have := HLW.out; omega, by have := HRI.out; have := HLW.out; omega⟩ (fun i hi e => by have := (HMD.out.H.row i hi).lt; have := HRI.out; omega) (fun e => by have := (os_in HMD.out.H.out e).2; have := HRI.out; omega) ho4 hk4 hb4
                    have HR4 := Lib.hid hr4
                    have HK4 := Lib.hid hk4
                    have HM5 := Lib.hid hm5
                    have HK5 := Lib.hid hk5
                    have HSZ5 : Hid (m2 ≤ (x4.setCell ⟨d, 2, none⟩ (.slice (some ⟨g4, 0, none⟩) (k + 1) cap4)).heap.size) := by have := hk5.size; have := HLW.out; have := HG3.out.size; show _ ≤ _; omega
                    have c4 := hbx.cell 2
                    have f4 := hbx.frozen 2
                    simp only [List.getElem?_cons_zero, List.getElem?_cons_succ] at c4
                    clear hr4 ho4 hk4 hb4 hm5 hk5 hbx
                    refine tr_oneE fun K hK => ?_
                    simp only [sel, List.map_cons, List.map_nil, List.getD_cons_succ, List.getD_cons_zero]
                    refine wpQuiet_nil ?_
                    go_wp2_with (at_builtin; refine Lib.wpList_append_run _ rfl _ _ _ _ rfl _ _ rfl rfl _ _ (HR4.out _) ?_)
                    refine norm_up (hK _ _ (Lr_early (by decide) (HK4.out.mono fun k _ e => .inl e)) ?_)
                    clear hK K
                    refine tr_oneL fun K hK => ?_
                    simp only [sel, List.map_cons, List.map_nil, List.getD_cons_succ, List.getD_cons_zero]
                    repeat (go_big_quiet_step (fail))
                    refine wpQuiet_nil ?_
                    go_wp2
                    refine norm_up (hK _ _ (Lr_late (by decide) ((kept_set _ _ _ _).mono fun k _ e => .inr e)) ?_)
                    clear hK K c4 f4
                    refine tr_lastL fun K hK => ?_
                    simp only [sel, List.map_nil]
                    refine wpQuiet_nil (hK _ ?_)
                    clear hK K
                    go_wp2
                    go_roundg (go - 1)
                    case measure => have := HG.out; have := HJ.out; omega
                    case rel => exact ⟨k + 1, by have := HG.out; have := HJ.out; omega, by go_num, _, _, _, _, _, HM5.out, (HKD.out.trans (Grow.kept HG3.out)).trans HK5.out, HSZ5.out, fun i hi => by
                      by_cases e : i = k
                      · subst e; exact HOKH.out
                      · exact HOK2.out i (by omega)⟩
              · have hl6 : ¬ ((s.H k).length : Int) = 6 := by omega
                have b6 : (((s.H k).length : Int) == 6) = false := by simp [hl6]
                have d6 : (((s.H k).length : Int) != 6) = true := by simp [hl6]
                have HNB : Hid (¬ s.okH k) := fun h => h6 h.1
                obtain ⟨l, hl⟩ : ∃ l, l = (s.H k).length := ⟨_, rfl⟩
                rw [← hl] at r0 hl6 b6 d6
                clear hl h6 hsl hj hgw r1
                have hbx := HB0.out.kept HGR.out (fun (e : d ≤ B) => by have := HBD.out; omega)
                have HBX := Lib.hid hbx
                have HGZ : Hid (Grow w wr) := HG0.out.then HGR.out fun x hx (e : d ≤ x) => by have := HBD.out; omega
                have HNM : Hid (¬ s.may) := fun h => HNB.out (h.2.2.2 k HJ.out)
                have t0 := hbx.cell 0
                have t1 := hbx.cell 1
                have t2 := hbx.cell 2
                have tf := hbx.frozen
                simp only [List.getElem?_cons_zero, List.getElem?_cons_succ] at t0 t1 t2
                clear hbx
                go_wp2
                have hb5 := ((HBX.out.set 0 (.slice none 0 0)).set 1 (.slice none 0 0)).set 2 (.slice none 0 0)
                rw [HPP.out]
                exact ret_Sb rfl rfl hb5 rfl (FromP.no HNM.out (HGZ.out.then (((kept_set wr B 0 _).trans (kept_set _ B 1 _)).trans (kept_set _ B 2 _)) fun x hx e => by have e : x = B := e; have := HBD.out; omega))
            · clear s0 hgw
              obtain rfl : k = s.nH := by have := HG.out; omega
              clear hj HG
              obtain ⟨AT', kT, rfl⟩ := PmR.os_form HMK.out.T
              obtain ⟨AB', kB, rfl⟩ := PmR.os_form HMK.out.B
              obtain ⟨AH', kH, rfl⟩ := PmR.os_form HMK.out.H.out
              have HBR := Lib.hid (HB0.out.kept HGR.out (fun (e : d ≤ B) => by have := HBD.out; omega))
              have HMAY : Hid s.may := ⟨HN.out.1, HN.out.2, fun i hi => HOK.out i (by have := HNN.out; omega), HOK2.out⟩
              have c0 := HMK.out.bx.cell 0
              have c1 := HMK.out.bx.cell 1
              have c2 := HMK.out.bx.cell 2
              have t0 := HBR.out.cell 0
              have t1 := HBR.out.cell 1
              have t2 := HBR.out.cell 2
              have tf := HBR.out.frozen
              simp only [List.getElem?_cons_zero, List.getElem?_cons_succ] at c0 c1 c2 t0 t1 t2
              go_wp2
              have hb5 := (((HBR.out.set 0 (.slice AT' j kT)).set 1 (.slice AB' j kB)).set 2 (.slice AH' s.nH kH))
              have hk5 : Kept (fun x => x = B) wr (((wr.setCell ⟨B, 0, none⟩ (.slice AT' j kT)).setCell ⟨B, 1, none⟩ (.slice AB' j kB)).setCell ⟨B, 2, none⟩ (.slice AH' s.nH kH)) := ((kept_set wr B 0 _).trans (kept_set _ B 1 _)).trans (kept_set _ B 2 _)
              rw [HPP.out]
              have hgd : MdM.Good ⟨j, s.nH, s.T, s.md.B, s.md.H⟩ := by rw [HNN.out.1]; exact may_good HMAY.out HBY.out
              have hpa : SAt wr (d + 1 ≤ ·) (.agg #[(.slice AT' j kT), (.slice AB' j kB), (.slice AH' s.nH kH)]) ⟨j, s.nH, s.T, s.md.B, s.md.H⟩ := HMK.out.at hgd
              have hpb : SAt wr (d + 1 ≤ ·) (.agg #[(.slice AT' j kT), (.slice AB' j kB), (.slice AH' s.nH kH)]) s.md := by
                have e : (⟨j, s.nH, s.T, s.md.B, s.md.H⟩ : Md) = s.md := by rw [HNN.out.1]; rfl
                rw [e] at hpa
                exact hpa
              refine ret_Sb (u := 3) rfl rfl hb5 rfl ?_
              exact (⟨_, _, _, _, _, _, _, _, _, true, rfl, ⟨fun _ => HMAY.out, fun _ => rfl⟩, fun _ => (hpb.kept hk5 fun x (hx : d + 1 ≤ x) e => by have e : x = B := e; have := HBD.out; omega).mono (fun x _ (hx : d + 1 ≤ x) => by have := HBD.out; show w.heap.size ≤ x; omega), (HG0.out.then HGR.out fun x hx (e : d ≤ x) => by have := HBD.out; omega).then hk5 fun x hx (e : x = B) => by have := HBD.out; omega⟩ : FromP s w (.returned (.tuple #[.agg #[(.slice AT' j kT), (.slice AB' j kB), (.slice AH' s.nH kH)], .bool true])) _)
end
end Go.Proofs.Yteiodnclpbjbbaa.MdFrom
