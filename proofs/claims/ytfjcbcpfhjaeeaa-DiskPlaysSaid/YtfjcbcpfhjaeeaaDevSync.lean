/-
  What the methods of package disk compute (chapter 3), more: Sync, Waits, Durable.
-/
import Derived.Test.YtfjcbcpfhjaeeaaDevMore
namespace Go.Proofs.Ytfjcbcpfhjaeeaa.DevY
open Go.ChangeShapes Go.WideShapes Go.ChangeAt Go.RowKit
open Go.Proofs.Ytfjcbcpfhjaeeaa.SumM Go.Proofs.Ytfjcbcpfhjaeeaa.Mem Go.Proofs.Ytfjcbcpfhjaeeaa.Blk Go.Proofs.Ytfjcbcpfhjaeeaa.PageM Go.Proofs.Ytfjcbcpfhjaeeaa.Str Go.Proofs.Ytfjcbcpfhjaeeaa.Dev Go.Proofs.Ytfjcbcpfhjaeeaa.LibC Go.Proofs.Ytfjcbcpfhjaeeaa.DevC Go.Proofs.Ytfjcbcpfhjaeeaa.DevM Go.Proofs.Ytfjcbcpfhjaeeaa.Stages

section
variable {w : World} {d D W : Nat} {G : Nat → Prop} {S : Dv}

theorem sync_nil (w : World) : Calls Try.prog 16 #[.pointer none] w fun e w' => e = .returned (.int .i64 12) ∧ w = w' := by
  go_enter Try.func16, Try.ntmps16
  go_wp2
  go_step3
  go_wp2
  rw [Exit.noGoto_ret]
  go_ret
  exact ⟨rfl, rfl⟩
theorem fail_nil (m : Int) (w : World) : Calls Try.prog 18 #[.pointer none, .int .i64 m] w fun e w' => e = .returned (.bool false) ∧ w = w' := by
  go_enter Try.func18, Try.ntmps18
  go_wp2
  go_ret
  exact ⟨rfl, rfl⟩

theorem sync_bad (h : DevAt w d D W G S) (hn : (S.n : Int) < 9223372036854775807) (hb : (S.bad : Int) < 9223372036854775807) (hc : accC S ≠ 0) :
    Calls Try.prog 16 #[.pointer (some ⟨d, 0, none⟩)] w (DevPost d D W G w (.int .i64 (accC S)) (accS S)) := by
  have HA := Lib.hid (access_any h hn hb)
  have H := Lib.hid h
  have hc' : (accC S == 0) = false := by simpa using hc
  have hc'' : (accC S != 0) = true := by simpa using hc
  clear h hc
  generalize accC S = c at *
  go_enter Try.func16, Try.ntmps16
  go_wp2
  go_step3
  go_wp2_with (go_at_call 31; (with_reducible refine HA.out.mono ?_); rintro e w1 ⟨⟨rfl, hdev, hk⟩, hsz⟩; have HD := Lib.hid hdev; have HK := Lib.hid hk; clear hdev hk hsz)
  rw [Exit.noGoto_ret]
  go_ret
  exact ⟨rfl, HD.out, HK.out⟩

/-- A device whose first j pages are flushed. -/
def mixS (S : Dv) (j : Nat) : Dv := { S with dur := fun q => if q < j then cur S q else S.dur q }
theorem zero_sl : ∀ w, (zeroValue 28).run Try.prog w = .ok (.slice none 0 0) w := by
  obtain ⟨i0, hi, hz0, hz1, hz2⟩ := info_parts infoSl
  intro w
  simp [zeroValue, typeInfo, hi, hz0]

set_option maxHeartbeats 1000000 in
theorem sync_good (h : DevAt w d D W G S) (hn : (S.n : Int) < 9223372036854775807) (hb : (S.bad : Int) < 9223372036854775807) (hc : accC S = 0) :
    Calls Try.prog 16 #[.pointer (some ⟨d, 0, none⟩)] w (DevPost d D W G w (.int .i64 0) (flushS (accS S))) := by
  have q22 : ∀ (w : World) (a : Option Addr) (n c n' c' : Nat), (binOp .eql 28 (.slice a n c) (.slice none n' c')).run Try.prog w = .ok (.bool a.isNone) w := fun w a n c n' c' => Lib.run_eql_slice_nil w _ _ a n c n' c' Try.underlying28
  have HA := Lib.hid (access_any h hn hb)
  rw [hc] at HA
  have hN := h.size
  rw [← accS_N] at hN
  clear h hc
  generalize accS S = T at *
  go_enter Try.func16, Try.ntmps16
  go_wp2
  go_step3
  go_wp2_with (go_at_call 31; (with_reducible refine HA.out.mono ?_); rintro e w1 ⟨⟨rfl, hdev, hk⟩, hsz⟩; have HD := Lib.hid hdev; have HK := Lib.hid hk; have HZ := Lib.hid hsz; clear hdev hk hsz)
  have c1 := HD.out.c1
  go_step3
  go_wp2
  clear c1
  have HM0 : Hid (DevAt w1 d D W G (mixS T 0)) := HD.out.congr rfl rfl rfl rfl (fun p _ => by show (if p < 0 then cur T p else T.dur p) = T.dur p; rw [if_neg (by omega)]) (fun _ _ => rfl)
  have hNN := hN
  have HT : Hid (T.N = T.N) := rfl
  go_loopg [18] T.N (fun g i wr => ∃ j : Nat, j + g = T.N ∧ i = .int .i64 (j : Int) ∧ DevAt wr d D W G (mixS T j) ∧ Kept (Own d D W) w wr)
  case atStart => exact ⟨0, by omega, rfl, HM0.out, HK.out⟩
  case round =>
    obtain ⟨j, hg, rfl, hdev, hkk⟩ := hrel
    have HDJ := Lib.hid hdev
    have HKJ := Lib.hid hkk
    have HG := Lib.hid hg
    by_cases hj : j < T.N
    · have hjz : (j : Int) < (T.N : Int) := by omega
      obtain ⟨wv, hwr, hwi⟩ := hdev.wr
      have hwk := hwi j hj
      have r1 := hwr.cell (i := j) hj
      have c0 := hdev.c0
      have c1 := hdev.c1
      obtain ⟨dv, hdr, _⟩ := hdev.dur
      have hcell := hdr.cell (i := j) hj
      have hf := hdr.frozen j
      have HCU : Hid (cur T j = (T.wr j).getD (T.dur j)) := rfl
      have c0' : wr.cell? ⟨d, 0, none⟩ = some (.slice (some ⟨D, 0, none⟩) T.N T.N) := c0
      clear hdev hwr hwi hdr hkk hg c0 c1
      generalize wv j = y at *
      cases ho : T.wr j with
      | none =>
        obtain rfl : y = .slice none 0 0 := by
          have : WImg wr G y (T.wr j) := hwk
          rw [ho] at this
          exact this
        rw [ho] at HCU
        have HNX : Hid (DevAt wr d D W G (mixS T (j + 1))) := HDJ.out.congr rfl rfl rfl rfl (fun p _ => by
          show (if p < j + 1 then cur T p else T.dur p) = (if p < j then cur T p else T.dur p)
          by_cases e : p = j
          · subst e; rw [if_pos (by omega), if_neg (by omega)]; exact HCU.out
          · by_cases e2 : p < j
            · rw [if_pos (by omega), if_pos e2]
            · rw [if_neg (by omega), if_neg e2]) (fun _ _ => rfl)
        clear ho hwk
        go_wp2
        go_roundg (gk - 1)
        case measure => have := HG.out; omega
        case rel => exact ⟨j + 1, by have := HG.out; omega, by go_num, HNX.out, HKJ.out⟩
      | some z =>
        have hi : Img wr G y z := by
          have : WImg wr G y (T.wr j) := hwk
          rw [ho] at this
          exact this
        have HI := Lib.hid hi
        obtain ⟨b, c, rfl, h24, hm, hsl⟩ := hi.sl
        rw [ho] at HCU
        have HNX : Hid (DevAt (wr.setCell ⟨D, j, none⟩ (.slice (some ⟨b, 0, none⟩) 24 c)) d D W G (mixS T (j + 1))) := (HDJ.out.putD (k := j) HI.out).congr rfl rfl rfl rfl (fun p _ => by
          show (if p < j + 1 then cur T p else T.dur p) = (if p = j then z else if p < j then cur T p else T.dur p)
          by_cases e : p = j
          · subst e; rw [if_pos (by omega), if_pos rfl]; exact HCU.out
          · rw [if_neg e]
            by_cases e2 : p < j
            · rw [if_pos (by omega), if_pos e2]
            · rw [if_neg (by omega), if_neg e2]) (fun _ _ => rfl)
        have HKX : Hid (Kept (Own d D W) w (wr.setCell ⟨D, j, none⟩ (.slice (some ⟨b, 0, none⟩) 24 c))) := HKJ.out.setCell (fun _ => .inr (.inl rfl)) _
        clear ho hwk hsl hi
        go_wp2
        go_roundg (gk - 1)
        case measure => have := HG.out; omega
        case rel => exact ⟨j + 1, by have := HG.out; omega, by go_num, HNX.out, HKX.out⟩
    · have hjN : j = T.N := by omega
      subst hjN
      obtain ⟨wv, hwr, _⟩ := hdev.wr
      have hwr' : Row wr W T.N wv := hwr
      have hclr := fun ty => Lib.run_clear_slice (P := Try.prog) wr 42 28 ty (.slice none 0 0) Try.underlying42 zero_sl rfl rfl W 0 T.N T.N (by omega) (fun q hq => by rw [Nat.zero_add, hwr'.cell hq]; rfl) (fun q _ => hwr'.frozen _)
      have c1 := hdev.c1
      have c1' : wr.cell? ⟨d, 1, none⟩ = some (.slice (some ⟨W, 0, none⟩) T.N T.N) := c1
      have HF : Hid (DevAt (wr.setCells W 0 (List.replicate T.N (.slice none 0 0))) d D W G (flushS T)) := (hdev.clear).congr rfl rfl rfl rfl (fun p hp => by
          show cur T p = (if p < T.N then cur T p else T.dur p)
          have hp' : p < T.N := hp
          rw [if_pos hp']) (fun _ _ => rfl)
      have HKF : Hid (Kept (Own d D W) w (wr.setCells W 0 (List.replicate T.N (.slice none 0 0)))) := hkk.trans ((kept_setCells _ _ _).mono fun _ _ e => .inr (.inr e))
      clear hwr hwr' hdev hkk hg c1
      go_wp2
      go_ret
      exact ⟨rfl, HF.out, HKF.out⟩

theorem infoI : (Try.prog.info? 3).map (fun i => (i.zero, i.size, i.bytes)) = some (some (.int .i64 0), 1, 8) := by kernel_rfl

/-- A list of numbers in memory of its own. -/
def IntsOf (w : World) (zs : List Int) (e : Ending) (w' : World) : Prop :=
  ∃ A n c, e = .returned (.slice A n c) ∧ Sl w' w'.heap.size .i64 A n zs ∧ (∀ x, A = some x → w.heap.size ≤ x.block) ∧ Grow w w'

theorem waitL_le (S : Dv) : ∀ j, (waitL S j).length ≤ j
  | 0 => Nat.le_refl _
  | j + 1 => by
    have := waitL_le S j
    unfold waitL
    split
    · simp; omega
    · omega

set_option maxHeartbeats 1000000 in
theorem waits_any (h : DevAt w d D W G S) :
    Calls Try.prog 25 #[.pointer (some ⟨d, 0, none⟩)] w (IntsOf w (waitL S S.N)) := by
  have q22 : ∀ (w : World) (a : Option Addr) (n c n' c' : Nat), (binOp .eql 28 (.slice a n c) (.slice none n' c')).run Try.prog w = .ok (.bool a.isNone) w := fun w a n c n' c' => Lib.run_eql_slice_nil w _ _ a n c n' c' Try.underlying28
  have hN := h.size
  have c1 := h.c1
  have H := Lib.hid h
  clear h
  go_enter Try.func25, Try.ntmps25
  go_wp2
  go_step3
  go_wp2
  go_step3
  go_wp2
  clear c1
  go_loopg [3, 13] S.N (fun g v i wr => ∃ j : Nat, j + g = S.N ∧ i = .int .i64 (j : Int) ∧ wr.ownsRow w.heap.size 3 1 v (waitL S j).length ((waitL S j).map (Value.int .i64)) ∧ Below w.heap.size w wr)
  case atStart => exact ⟨0, by omega, rfl, World.ownsRow_nil _ _ _ _, Below.refl _ _⟩
  case round =>
    obtain ⟨j, hg, rfl, hown, hbel⟩ := hrel
    have HO := Lib.hid hown
    have HB := Lib.hid hbel
    have HG := Lib.hid hg
    have hdev := H.out.grow (Kept.of_below hbel)
    by_cases hj : j < S.N
    · have hjz : (j : Int) < (S.N : Int) := by omega
      obtain ⟨wv, hwr, hwi⟩ := hdev.wr
      have hwk := hwi j hj
      have r1 := hwr.cell (i := j) hj
      have hle := waitL_le S j
      have hbs : w.heap.size ≤ wr.heap.size := hbel.size
      clear hdev hwr hwi hg hown hbel
      generalize wv j = y at *
      cases ho : S.wr j with
      | none =>
        obtain rfl : y = .slice none 0 0 := by
          have : WImg wr G y (S.wr j) := hwk
          rw [ho] at this
          exact this
        have HE : Hid (waitL S (j + 1) = waitL S j) := by
          show waitL S (j + 1) = waitL S j
          rw [waitL, ho]; rfl
        clear ho hwk
        go_wp2
        go_roundg (gk - 1)
        case measure => have := HG.out; omega
        case rel => exact ⟨j + 1, by have := HG.out; omega, by go_num, by rw [HE.out]; exact HO.out, HB.out⟩
      | some z =>
        obtain ⟨b, c, rfl, _⟩ : Img wr G y z := by
          have : WImg wr G y (S.wr j) := hwk
          rw [ho] at this
          exact this
        have HE : Hid (waitL S (j + 1) = waitL S j ++ [(j : Int)]) := by
          show waitL S (j + 1) = waitL S j ++ [(j : Int)]
          rw [waitL, ho]; rfl
        clear ho hwk
        generalize waitL S j = l at *
        go_wp2_with (at_builtin; refine wpList_append_one rfl (.tmp 20) (.tmp 22) 49 rfl w.heap.size 3 (.int .i64 0) 8 Try.underlying49 infoI rfl _ l.length _ rfl (World.ownsRow.alloc HO.out _) wr.heap.size (.int .i64 (j : Int)) rfl (cell_new1 _ _ _) rfl (by unfold maxLen; omega) (by omega) (by simp; omega) ?_; intro g cap w2 hown hbel; have HOW := Lib.hid hown; have HBW := Lib.hid hbel; clear hown hbel)
        go_roundg (gk - 1)
        case measure => have := HG.out; omega
        case rel => exact ⟨j + 1, by have := HG.out; omega, by go_num, by rw [HE.out]; simpa using HOW.out, (HB.out.alloc hbs _).trans HBW.out⟩
    · have hjN : j = S.N := by omega
      subst hjN
      obtain ⟨A, c, rfl, hsl⟩ := Sl.of_row1 hown
      have HSL := Lib.hid hsl
      have HNEW : Hid (∀ x, A = some x → w.heap.size ≤ x.block) := fun x e => (World.ownsRow.lt hown x.block (by rw [e]; rfl)).1
      clear hdev hown hbel hg hsl
      go_wp2
      rw [Exit.noGoto_ret]
      go_ret
      exact ⟨A, _, c, rfl, HSL.out, HNEW.out, Kept.of_below HB.out⟩

/-- An image behind block g. -/
def Fr (g : Nat) (w' : World) (v : Value) (zs : List Int) : Prop := ∃ b c, v = .slice (some ⟨b, 0, none⟩) 24 c ∧ 24 ≤ c ∧ c ≤ maxLen ∧ g < b ∧ NRow w' b 24 .u8 zs ∧ zs.length = 24 ∧ Bytes zs
theorem Fr.kept {g : Nat} {w w' : World} {v : Value} {zs : List Int} {F : Nat → Prop} (h : Fr g w v zs) (hk : Kept F w w') (hF : ∀ b, g < b → ¬ F b) : Fr g w' v zs := by
  obtain ⟨b, c, rfl, h1, h2, h3, h4, h5⟩ := h
  exact ⟨b, c, rfl, h1, h2, h3, Row.kept h4 hk (hF b h3), h5⟩
/-- The durable images in memory of their own. -/
def DurOf (w : World) (n : Nat) (z : Nat → List Int) (e : Ending) (w' : World) : Prop :=
  ∃ g c f, e = .returned (.slice (some ⟨g, 0, none⟩) n c) ∧ w.heap.size ≤ g ∧ Row w' g n f ∧ (∀ p, p < n → Fr g w' (f p) (z p)) ∧ Grow w w'

set_option maxHeartbeats 1000000 in
theorem durable_any (h : DevAt w d D W G S) :
    Calls Try.prog 23 #[.pointer (some ⟨d, 0, none⟩)] w (DurOf w S.N S.dur) := by
  have hN := h.size
  have c0 := h.c0
  have H := Lib.hid h
  obtain ⟨dv, hdr, hdi⟩ := h.dur
  have CL := Lib.hid (cloneL_any D S.N S.N dv w (by omega) (by omega) hdr (fun p hp => by obtain ⟨b, c, e, _⟩ := hdi p hp; rw [e]; rfl))
  have HDI := Lib.hid hdi
  clear h hdr hdi
  go_enter Try.func23, Try.ntmps23
  go_wp2_with (go_at_call 35; (with_reducible refine CL.out.mono ?_); rintro e w1 ⟨g, c, rfl, hg, hrow, hgr⟩; have HGG := Lib.hid hg; have HR := Lib.hid hrow; have HGR := Lib.hid hgr; clear hg hrow hgr)
  clear c0
  go_loopg [15] S.N (fun gx i wr => ∃ (j : Nat) (f : Nat → Value), j + gx = S.N ∧ i = .int .i64 (j : Int) ∧ Row wr g S.N f ∧ (∀ p, p < S.N → if p < j then Fr g wr (f p) (S.dur p) else f p = dv p) ∧ Grow w wr)
  case atStart => exact ⟨0, dv, by omega, rfl, HR.out, fun p _ => by rw [if_neg (by omega)], HGR.out⟩
  case round =>
    obtain ⟨j, f, hg, rfl, hrow, hall, hgr⟩ := hrel
    have HRW := Lib.hid hrow
    have HALL := Lib.hid hall
    have HGW := Lib.hid hgr
    have HG := Lib.hid hg
    by_cases hj : j < S.N
    · have hjz : (j : Int) < (S.N : Int) := by omega
      have hfj := hall j hj
      rw [if_neg (by omega)] at hfj
      have r1 := hrow.cell (i := j) hj
      have hf := hrow.frozen j
      rw [hfj] at r1
      have hi := (HDI.out j hj).kept hgr (fun _ x => x.elim)
      obtain ⟨b, c', hb, h24, hm, hsl⟩ := hi.sl
      rw [hb] at r1
      have CB := Lib.hid (clone_any (some ⟨b, 0, none⟩) 24 c' wr.heap.size (S.dur j) wr (by omega) (by omega) hsl)
      have HOK : Hid ((S.dur j).length = 24 ∧ Bytes (S.dur j)) := H.out.durOk hj
      clear hrow hall hgr hg hfj hi hb hsl
      go_wp2_with (go_at_call 32; (with_reducible refine CB.out.mono ?_); rintro e w2 ⟨g2, c2, rfl, hg2, hrow2, h1, h2, hgr2⟩; have hr2 := HRW.out.grow hgr2; have r2 := hr2.cell (i := j) hj; have f2 := hr2.frozen j; have HG2 := Lib.hid hg2; have HR2 := Lib.hid hrow2; have HGR2 := Lib.hid hgr2; clear hg2 hrow2 hgr2 hr2)
      have hgb : g < g2 := by have := HRW.out.lt; have := HG2.out; omega
      go_roundg (gk - 1)
      case measure => have := HG.out; omega
      case rel =>
        refine ⟨j + 1, _, by have := HG.out; omega, by go_num, (HRW.out.grow HGR2.out).set j _, fun p hp => ?_, (HGW.out.trans HGR2.out).setCell (fun x => absurd x (by have := HGG.out; show ¬ g < _; omega)) _⟩
        by_cases e : p = j
        · subst e
          rw [if_pos (by omega), if_pos rfl]
          exact ⟨g2, c2, rfl, h1, h2, hgb, Row.kept HR2.out (kept_set _ _ _ _) (by omega), HOK.out.1, HOK.out.2⟩
        · have := HALL.out p hp
          rw [if_neg e]
          by_cases e2 : p < j
          · rw [if_pos (by omega)]
            rw [if_pos e2] at this
            exact (this.kept HGR2.out (fun _ _ x => x)).kept (kept_set _ _ _ _) (fun b hb => by omega)
          · rw [if_neg (by omega)]
            rw [if_neg e2] at this
            exact this
    · have hjN : j = S.N := by omega
      subst hjN
      clear hrow hall hgr hg
      go_wp2
      go_ret
      exact ⟨g, c, f, rfl, HGG.out, HRW.out, fun p hp => by have := HALL.out p hp; rw [if_pos hp] at this; exact this, HGW.out⟩
end
end Go.Proofs.Ytfjcbcpfhjaeeaa.DevY
