/-
  The document's own answer of chapter 3, more: Crash.
-/
import Derived.Test.YtfjcbcpfhjaeeaaRefSync
namespace Go.Proofs.Ytfjcbcpfhjaeeaa.RefX
open Go.ChangeShapes Go.WideShapes Go.ChangeAt Go.RowKit
open Go.Proofs.Ytfjcbcpfhjaeeaa.SumM Go.Proofs.Ytfjcbcpfhjaeeaa.Mem Go.Proofs.Ytfjcbcpfhjaeeaa.Blk Go.Proofs.Ytfjcbcpfhjaeeaa.PageM Go.Proofs.Ytfjcbcpfhjaeeaa.Str Go.Proofs.Ytfjcbcpfhjaeeaa.Dev Go.Proofs.Ytfjcbcpfhjaeeaa.LibC Go.Proofs.Ytfjcbcpfhjaeeaa.DevC Go.Proofs.Ytfjcbcpfhjaeeaa.DevM Go.Proofs.Ytfjcbcpfhjaeeaa.DevY Go.Proofs.Ytfjcbcpfhjaeeaa.DevK Go.Proofs.Ytfjcbcpfhjaeeaa.DevX Go.Proofs.Ytfjcbcpfhjaeeaa.DevN Go.Proofs.Ytfjcbcpfhjaeeaa.Told3 Go.Proofs.Ytfjcbcpfhjaeeaa.DevS Go.Proofs.Ytfjcbcpfhjaeeaa.RefD Go.Proofs.Ytfjcbcpfhjaeeaa.RefM Go.Proofs.Ytfjcbcpfhjaeeaa.Stages

section
variable {w : World} {r : Rf} {S : Dv}

theorem rcrash_down (h : RefAt w r S) (A : Option Addr) (n cap : Nat) (hd : S.down = true) :
    Calls Try.prog 21 #[.pointer (some ⟨r.m, 0, none⟩), .slice A n cap] w fun e w' => e = .returned (.bool false) ∧ w = w' := by
  obtain ⟨t, h3, _⟩ := h
  have c5 := h3.c5
  rw [hd] at c5
  clear h3 hd
  go_enter Try.func21, Try.ntmps21
  go_wp2
  go_ret
  exact ⟨rfl, rfl⟩

theorem i64_and3 (m : Nat) (h : m < 256) : bits .and .i64 (m : Int) 3 = ((m % 4 : Nat) : Int) := by
  have : ∀ m : Fin 256, bits .and .i64 (m.val : Int) 3 = ((m.val % 4 : Nat) : Int) := by decide +kernel
  exact this ⟨m, h⟩
theorem two_bits64 {v : Int} (hv : U8 v) (e : Nat) : bits .and .i64 (v / 2 ^ e) 3 = ((v.toNat / 2 ^ e % 4 : Nat) : Int) := by
  obtain ⟨h1, h2⟩ := hv
  obtain ⟨V, rfl⟩ := Int.eq_ofNat_of_zero_le h1
  have h3 : ((V : Int) / 2 ^ e) = ((V / 2 ^ e : Nat) : Int) := by
    rw [Int.natCast_ediv, Int.natCast_pow]; rfl
  have h4 : V / 2 ^ e ≤ V := Nat.div_le_self _ _
  rw [h3, i64_and3 _ (by omega)]
  rfl

set_option maxHeartbeats 2000000 in
set_option maxRecDepth 100000 in
theorem rcrash_good (h : RefAt w r S) (A : Option Addr) (n cap B : Nat) (bs : List Int) (hd : S.down = false) (hs : ∀ w', Kept (POwn r) w w' → Sl w' B .u8 A n bs) (hz : Bytes bs) (hm : n ≤ maxLen) :
    Calls Try.prog 21 #[.pointer (some ⟨r.m, 0, none⟩), .slice A n cap] w (RefPost r w (.bool true) (crashS S bs)) := by
  unfold maxLen at hm
  obtain ⟨t, h3, h4⟩ := h
  have hN := h3.size
  have c5 := h3.c5
  rw [hd] at c5
  have HT := Lib.hid (h4 hd)
  have HDN := Lib.hid hd
  have hl := (hs w (Kept.refl _ _)).len
  have HL := Lib.hid hl
  have HS := Lib.hid hs
  have HR0 : Hid (Rows3 w r S.n S.bad S.N false (fun p => if p < 0 then fallen S bs p else S.dur p) t (fun p => if p < 0 then false else (S.wr p).isSome)) := by
    have := h3.congr (s' := fun p => if p < 0 then fallen S bs p else S.dur p) (t' := t) (v' := fun p => if p < 0 then false else (S.wr p).isSome) (fun p _ => by show (if p < 0 then fallen S bs p else S.dur p) = S.dur p; rw [if_neg (by omega)]) (fun p _ => rfl) (fun p _ => by show (if p < 0 then false else (S.wr p).isSome) = (S.wr p).isSome; rw [if_neg (by omega)])
    rw [hd] at this
    exact this
  clear h3 h4 hd hl hs
  go_enter Try.func21, Try.ntmps21
  go_wp2
  clear c5
  go_loopg [5, 6] S.N (fun g k i wr => ∃ j : Nat, j + g = S.N ∧ i = .int .i64 (j : Int) ∧ k = .int .i64 (cnt S j : Int) ∧ Rows3 wr r S.n S.bad S.N false (fun p => if p < j then fallen S bs p else S.dur p) t (fun p => if p < j then false else (S.wr p).isSome) ∧ Kept (POwn r) w wr)
  case atStart => exact ⟨0, by omega, rfl, rfl, HR0.out, Kept.refl _ _⟩
  case round =>
    obtain ⟨j, hg, rfl, rfl, hr, hkk⟩ := hrel
    have HR := Lib.hid hr
    have HKK := Lib.hid hkk
    have HG := Lib.hid hg
    have c0 := hr.c0
    have hcl := cnt_le S j
    by_cases hj : j < S.N
    · have hjz : (j : Int) < (S.N : Int) := by omega
      have c1 := hr.c1
      have c2 := hr.c2
      have rT := hr.tail.cell (i := j) hj
      have rA := hr.safe.cell (i := j) hj
      have rV := hr.wait.cell (i := j) hj
      have fV := hr.wait.frozen j
      have fA := hr.safe.frozen j
      have HCN : Hid (cnt S (j + 1) = cnt S j + (if (S.wr j).isSome then 1 else 0)) := rfl
      have HFA : Hid (fallen S bs j = match S.wr j with | none => S.dur j | some z => settleI (fate bs (cnt S j)) (S.dur j) z) := rfl
      simp only [strV, if_neg (show ¬ j < j by omega)] at rT rA rV
      rw [HT.out j hj] at rT
      have HCU : Hid (cur S j = (S.wr j).getD (S.dur j)) := rfl
      have hlen := hr.ok j hj
      simp only [if_neg (show ¬ j < j by omega), HT.out j hj] at hlen
      have HLEN := Lib.hid hlen
      have HNE := Lib.hid hr.ne
      clear hr hkk hg hlen
      cases ho : S.wr j with
      | none =>
        rw [ho] at HCN HFA rV
        simp only [Option.isSome_none] at rV
        have HNX : Hid (Rows3 wr r S.n S.bad S.N false (fun p => if p < j + 1 then fallen S bs p else S.dur p) t (fun p => if p < j + 1 then false else (S.wr p).isSome)) := by
          refine HR.out.congr (fun p _ => ?_) (fun p _ => rfl) (fun p _ => ?_)
          · show (if p < j + 1 then fallen S bs p else S.dur p) = (if p < j then fallen S bs p else S.dur p)
            by_cases e : p = j
            · subst e; rw [if_pos (by omega), if_neg (by omega)]; exact HFA.out
            · by_cases e2 : p < j
              · rw [if_pos (by omega), if_pos e2]
              · rw [if_neg (by omega), if_neg e2]
          · show (if p < j + 1 then false else (S.wr p).isSome) = (if p < j then false else (S.wr p).isSome)
            by_cases e : p = j
            · subst e; rw [if_pos (by omega), if_neg (by omega), ho]; rfl
            · by_cases e2 : p < j
              · rw [if_pos (by omega), if_pos e2]
              · rw [if_neg (by omega), if_neg e2]
        clear ho rT rA fV fA
        go_wp2
        go_roundg (S.N - (j + 1))
        case measure => have := HG.out; omega
        case rel => exact ⟨j + 1, by omega, by go_num, by rw [HCN.out]; rfl, HNX.out, HKK.out⟩
      | some z =>
        rw [ho] at HCN HFA HCU rV
        simp only [Option.isSome_some] at rV
        rw [show cur S j = z from HCU.out] at rT HLEN
        have HO := Lib.hid ho
        have HX : Hid (S.dur j = S.dur j) := rfl
        generalize hx : S.dur j = x at rA HLEN HFA
        have HX := Lib.hid hx
        clear ho hx
        by_cases hlt : cnt S j / 4 < n
        · obtain ⟨ab, ao, rfl, hab, hac⟩ := (HS.out wr HKK.out).at_ (by omega)
          have hcell := hac (cnt S j / 4) hlt
          have hu : U8 (bs.getD (cnt S j / 4) 0) := hz _ (getD_mem (by rw [HL.out]; exact hlt))
          clear hac
          have HFT : Hid (fate bs (cnt S j) = (bs.getD (cnt S j / 4) 0).toNat / 2 ^ (cnt S j % 4 * 2) % 4) := by
            show fate bs (cnt S j) = _
            unfold fate
            rw [if_pos (by rw [HL.out]; exact hlt)]
          generalize bs.getD (cnt S j / 4) 0 = v at *
          generalize cnt S j = tt at *
          have ht0 : (0 : Int) ≤ (tt : Int) / 4 := by omega
          have ht1 : (tt : Int) / 4 < (n : Int) := by omega
          have hv0 : 0 ≤ v := hu.1
          have hv1 : v < 256 := hu.2
          have hF : bits .and .i64 (v / 2 ^ (2 * (tt % 4))) 3 = ((fate bs tt : Nat) : Int) := by
            rw [two_bits64 hu, HFT.out, Nat.mul_comm]
          have hf4 := fate_lt bs tt
          clear hlt HFT
          generalize fate bs tt = f at *
          match f, hf4 with
          | 0, _ =>
            simp only [Int.natCast_zero] at hF
            have HA1 : Hid (Rows3 wr r S.n S.bad S.N false (fun p => if p = j then x else if p < j then fallen S bs p else S.dur p) t (fun p => if p < j then false else (S.wr p).isSome)) := HR.out.congr (fun p _ => by
              show (if p = j then x else if p < j then fallen S bs p else S.dur p) = (if p < j then fallen S bs p else S.dur p)
              by_cases e : p = j
              · rw [if_pos e, if_neg (by omega), e]; exact HX.out.symm
              · rw [if_neg e]) (fun p _ => rfl) (fun p _ => rfl)
            have HB1 := Lib.hid (HA1.out.setV (k := j) (b := false))
            have hV1 := HA1.out.wait.cell (i := j) hj
            have fV1 := HA1.out.wait.frozen j
            simp only [if_neg (show ¬ j < j by omega)] at hV1
            rw [HO.out] at hV1
            simp only [Option.isSome_some] at hV1
            have HNX : Hid (Rows3 (wr.setCell ⟨r.V, j, none⟩ (.bool false)) r S.n S.bad S.N false (fun p => if p < j + 1 then fallen S bs p else S.dur p) t (fun p => if p < j + 1 then false else (S.wr p).isSome)) := by
              refine HB1.out.congr (fun p _ => ?_) (fun p _ => rfl) (fun p _ => ?_)
              · show (if p < j + 1 then fallen S bs p else S.dur p) = (if p = j then x else if p < j then fallen S bs p else S.dur p)
                by_cases e : p = j
                · rw [if_pos (by omega), if_pos e, e, HFA.out]; rfl
                · by_cases e2 : p < j
                  · rw [if_pos (by omega), if_neg e, if_pos e2]
                  · rw [if_neg (by omega), if_neg e, if_neg e2]
              · show (if p < j + 1 then false else (S.wr p).isSome) = (if p = j then false else if p < j then false else (S.wr p).isSome)
                by_cases e : p = j
                · rw [if_pos (by omega), if_pos e]
                · by_cases e2 : p < j
                  · rw [if_pos (by omega), if_neg e, if_pos e2]
                  · rw [if_neg (by omega), if_neg e, if_neg e2]
            have HKX : Hid (Kept (POwn r) w (wr.setCell ⟨r.V, j, none⟩ (.bool false))) := HKK.out.trans ((kept_set _ _ _ _).mono fun _ _ e => .inr (.inr (.inr e)))
            clear HA1 HB1
            go_upto_region 12 with (fail)
            have q0 := up_cell (F := fun _ => False) (w := wr.drew) c0 id
            have q1 := up_cell (F := fun _ => False) (w := wr.drew) c1 id
            have q2 := up_cell (F := fun _ => False) (w := wr.drew) rA id
            have q3 := up_cell (F := fun _ => False) (w := wr.drew) rT id
            refine wp_region_stages Grow (kept_refl _) (kept_trans _) [] [0, 1, 2, 3, 4, 5, 6, 7, 8, 9, 10, 11, 12, 13, 14, 15] (by kernel_rfl) (by kernel_rfl) ?_
            simp only [selSt, sel, List.map_cons, List.map_nil, List.getD_cons_succ, List.getD_cons_zero]
            refine st_nil fun K2 hK2 => ?_
            repeat (go_big_quiet_step (fail))
            refine wpQuiet_nil (hK2 _ ?_)
            clear hK2 K2 q0 q1 q2 q3
            go_wp2
            go_roundg (S.N - (j + 1))
            case measure => have := HG.out; omega
            case rel => exact ⟨j + 1, by omega, by go_num, by rw [HCN.out]; rfl, by first | exact HNX.out.grow (Kept.drew' _) | exact (HNX.out.grow (Kept.drew' _)).grow (Kept.drew' _), by first | exact HKX.out.drew | exact HKX.out.drew.drew⟩
          | 1, _ =>
            simp only [Int.natCast_one, Int.cast_ofNat_Int] at hF
            have HA1 := Lib.hid (HR.out.setA (k := j) (z := z) (by exact HLEN.out.2))
            have HB1 := Lib.hid (HA1.out.setV (k := j) (b := false))
            have hV1 := HA1.out.wait.cell (i := j) hj
            have fV1 := HA1.out.wait.frozen j
            simp only [if_neg (show ¬ j < j by omega)] at hV1
            rw [HO.out] at hV1
            simp only [Option.isSome_some] at hV1
            have HNX : Hid (Rows3 ((wr.setCell ⟨r.A, j, none⟩ (strV z)).setCell ⟨r.V, j, none⟩ (.bool false)) r S.n S.bad S.N false (fun p => if p < j + 1 then fallen S bs p else S.dur p) t (fun p => if p < j + 1 then false else (S.wr p).isSome)) := by
              refine HB1.out.congr (fun p _ => ?_) (fun p _ => rfl) (fun p _ => ?_)
              · show (if p < j + 1 then fallen S bs p else S.dur p) = (if p = j then z else if p < j then fallen S bs p else S.dur p)
                by_cases e : p = j
                · rw [if_pos (by omega), if_pos e, e, HFA.out]; rfl
                · by_cases e2 : p < j
                  · rw [if_pos (by omega), if_neg e, if_pos e2]
                  · rw [if_neg (by omega), if_neg e, if_neg e2]
              · show (if p < j + 1 then false else (S.wr p).isSome) = (if p = j then false else if p < j then false else (S.wr p).isSome)
                by_cases e : p = j
                · rw [if_pos (by omega), if_pos e]
                · by_cases e2 : p < j
                  · rw [if_pos (by omega), if_neg e, if_pos e2]
                  · rw [if_neg (by omega), if_neg e, if_neg e2]
            have HKX : Hid (Kept (POwn r) w ((wr.setCell ⟨r.A, j, none⟩ (strV z)).setCell ⟨r.V, j, none⟩ (.bool false))) := (HKK.out.trans ((kept_set wr r.A j (strV z)).mono fun _ _ e => .inr (.inl e))).trans ((kept_set _ _ _ _).mono fun _ _ e => .inr (.inr (.inr e)))
            have c2' := HA1.out.c2
            simp only [strV] at hV1 fV1 HNX HKX c2'
            clear HA1 HB1
            go_upto_region 12 with (fail)
            have q0 := up_cell (F := fun _ => False) (w := wr.drew) c0 id
            have q1 := up_cell (F := fun _ => False) (w := wr.drew) c1 id
            have q2 := up_cell (F := fun _ => False) (w := wr.drew) rA id
            have q3 := up_cell (F := fun _ => False) (w := wr.drew) rT id
            refine wp_region_stages Grow (kept_refl _) (kept_trans _) [] [0, 1, 2, 3, 4, 5, 6, 7, 8, 9, 10, 11, 12, 13, 14, 15] (by kernel_rfl) (by kernel_rfl) ?_
            simp only [selSt, sel, List.map_cons, List.map_nil, List.getD_cons_succ, List.getD_cons_zero]
            refine st_nil fun K2 hK2 => ?_
            repeat (go_big_quiet_step (fail))
            refine wpQuiet_nil (hK2 _ ?_)
            clear hK2 K2 q0 q1 q2 q3
            go_wp2
            go_roundg (S.N - (j + 1))
            case measure => have := HG.out; omega
            case rel => exact ⟨j + 1, by omega, by go_num, by rw [HCN.out]; rfl, by first | exact HNX.out.grow (Kept.drew' _) | exact (HNX.out.grow (Kept.drew' _)).grow (Kept.drew' _), by first | exact HKX.out.drew | exact HKX.out.drew.drew⟩
          | 2, _ =>
            simp only [Int.cast_ofNat_Int] at hF
            have HA1 := Lib.hid (HR.out.setA (k := j) (z := (z.take 12 ++ x.drop 12)) (by rw [List.length_append, List.length_take, List.length_drop, HLEN.out.1, HLEN.out.2]; decide))
            have HB1 := Lib.hid (HA1.out.setV (k := j) (b := false))
            have hV1 := HA1.out.wait.cell (i := j) hj
            have fV1 := HA1.out.wait.frozen j
            simp only [if_neg (show ¬ j < j by omega)] at hV1
            rw [HO.out] at hV1
            simp only [Option.isSome_some] at hV1
            have HNX : Hid (Rows3 ((wr.setCell ⟨r.A, j, none⟩ (strV (z.take 12 ++ x.drop 12))).setCell ⟨r.V, j, none⟩ (.bool false)) r S.n S.bad S.N false (fun p => if p < j + 1 then fallen S bs p else S.dur p) t (fun p => if p < j + 1 then false else (S.wr p).isSome)) := by
              refine HB1.out.congr (fun p _ => ?_) (fun p _ => rfl) (fun p _ => ?_)
              · show (if p < j + 1 then fallen S bs p else S.dur p) = (if p = j then (z.take 12 ++ x.drop 12) else if p < j then fallen S bs p else S.dur p)
                by_cases e : p = j
                · rw [if_pos (by omega), if_pos e, e, HFA.out]; rfl
                · by_cases e2 : p < j
                  · rw [if_pos (by omega), if_neg e, if_pos e2]
                  · rw [if_neg (by omega), if_neg e, if_neg e2]
              · show (if p < j + 1 then false else (S.wr p).isSome) = (if p = j then false else if p < j then false else (S.wr p).isSome)
                by_cases e : p = j
                · rw [if_pos (by omega), if_pos e]
                · by_cases e2 : p < j
                  · rw [if_pos (by omega), if_neg e, if_pos e2]
                  · rw [if_neg (by omega), if_neg e, if_neg e2]
            have HKX : Hid (Kept (POwn r) w ((wr.setCell ⟨r.A, j, none⟩ (strV (z.take 12 ++ x.drop 12))).setCell ⟨r.V, j, none⟩ (.bool false))) := (HKK.out.trans ((kept_set wr r.A j (strV (z.take 12 ++ x.drop 12))).mono fun _ _ e => .inr (.inl e))).trans ((kept_set _ _ _ _).mono fun _ _ e => .inr (.inr (.inr e)))
            have c2' := HA1.out.c2
            simp only [strV] at hV1 fV1 HNX HKX c2'
            clear HA1 HB1
            have hcat : strOfNums (z.take 12) ++ strOfNums (x.drop 12) = strOfNums (z.take 12 ++ x.drop 12) := str_append _ _
            have hx1 : (strOfNums z).extract 0 12 = strOfNums (z.take 12) := str_take _ _
            have hx2 : (strOfNums x).extract 12 24 = strOfNums (x.drop 12) := str_drop _ 12 24 HLEN.out.1 (by omega)
            have hs1 : (strOfNums z).size = 24 := by rw [strOfNums_size, HLEN.out.2]
            have hs2 : (strOfNums x).size = 24 := by rw [strOfNums_size, HLEN.out.1]
            have hs3 : (strOfNums (z.take 12)).size = 12 := by rw [strOfNums_size, List.length_take, HLEN.out.2]; decide
            have hs4 : (strOfNums (x.drop 12)).size = 12 := by rw [strOfNums_size, List.length_drop, HLEN.out.1]
            go_upto_region 12 with (fail)
            have q0 := up_cell (F := fun _ => False) (w := wr.drew) c0 id
            have q1 := up_cell (F := fun _ => False) (w := wr.drew) c1 id
            have q2 := up_cell (F := fun _ => False) (w := wr.drew) rA id
            have q3 := up_cell (F := fun _ => False) (w := wr.drew) rT id
            refine wp_region_stages Grow (kept_refl _) (kept_trans _) [] [0, 1, 2, 3, 4, 5, 6, 7, 8, 9, 10, 11, 12, 13, 14, 15] (by kernel_rfl) (by kernel_rfl) ?_
            simp only [selSt, sel, List.map_cons, List.map_nil, List.getD_cons_succ, List.getD_cons_zero]
            refine st_nil fun K2 hK2 => ?_
            repeat (go_big_quiet_step (fail))
            refine wpQuiet_nil (hK2 _ ?_)
            clear hK2 K2 q0 q1 q2 q3
            go_upto_region 17 with (fail)
            have q0 := up_cell (F := (· = r.A)) (w := wr.drew.drew) c0 HNE.out.1
            refine wp_region_stages (Kept (· = r.A)) (kept_refl _) (kept_trans _) [([0, 1, 2, 3, 4, 5, 6, 7, 8, 9, 10], 11)] [] (by kernel_rfl) (by kernel_rfl) ?_
            simp only [selSt, sel, List.map_cons, List.map_nil, List.getD_cons_succ, List.getD_cons_zero]
            refine st_cons fun K1 hK1 => ?_
            repeat (go_big_quiet_step (fail))
            refine wpQuiet_nil ?_
            clear q0 hx1 hx2 hs1 hs2 hs3 hs4 hcat
            go_wp2
            refine norm_up (hK1 _ _ (kept_set _ _ _ _) (st_nil fun K3 hK3 => wpQuiet_nil (hK3 _ ?_)))
            clear hK1 K1 K3 hK3
            go_wp2
            go_roundg (S.N - (j + 1))
            case measure => have := HG.out; omega
            case rel => exact ⟨j + 1, by omega, by go_num, by rw [HCN.out]; rfl, by first | exact HNX.out.grow (Kept.drew' _) | exact (HNX.out.grow (Kept.drew' _)).grow (Kept.drew' _), by first | exact HKX.out.drew | exact HKX.out.drew.drew⟩
          | 3, _ =>
            simp only [Int.cast_ofNat_Int] at hF
            have HA1 := Lib.hid (HR.out.setA (k := j) (z := (x.take 12 ++ z.drop 12)) (by rw [List.length_append, List.length_take, List.length_drop, HLEN.out.1, HLEN.out.2]; decide))
            have HB1 := Lib.hid (HA1.out.setV (k := j) (b := false))
            have hV1 := HA1.out.wait.cell (i := j) hj
            have fV1 := HA1.out.wait.frozen j
            simp only [if_neg (show ¬ j < j by omega)] at hV1
            rw [HO.out] at hV1
            simp only [Option.isSome_some] at hV1
            have HNX : Hid (Rows3 ((wr.setCell ⟨r.A, j, none⟩ (strV (x.take 12 ++ z.drop 12))).setCell ⟨r.V, j, none⟩ (.bool false)) r S.n S.bad S.N false (fun p => if p < j + 1 then fallen S bs p else S.dur p) t (fun p => if p < j + 1 then false else (S.wr p).isSome)) := by
              refine HB1.out.congr (fun p _ => ?_) (fun p _ => rfl) (fun p _ => ?_)
              · show (if p < j + 1 then fallen S bs p else S.dur p) = (if p = j then (x.take 12 ++ z.drop 12) else if p < j then fallen S bs p else S.dur p)
                by_cases e : p = j
                · rw [if_pos (by omega), if_pos e, e, HFA.out]; rfl
                · by_cases e2 : p < j
                  · rw [if_pos (by omega), if_neg e, if_pos e2]
                  · rw [if_neg (by omega), if_neg e, if_neg e2]
              · show (if p < j + 1 then false else (S.wr p).isSome) = (if p = j then false else if p < j then false else (S.wr p).isSome)
                by_cases e : p = j
                · rw [if_pos (by omega), if_pos e]
                · by_cases e2 : p < j
                  · rw [if_pos (by omega), if_neg e, if_pos e2]
                  · rw [if_neg (by omega), if_neg e, if_neg e2]
            have HKX : Hid (Kept (POwn r) w ((wr.setCell ⟨r.A, j, none⟩ (strV (x.take 12 ++ z.drop 12))).setCell ⟨r.V, j, none⟩ (.bool false))) := (HKK.out.trans ((kept_set wr r.A j (strV (x.take 12 ++ z.drop 12))).mono fun _ _ e => .inr (.inl e))).trans ((kept_set _ _ _ _).mono fun _ _ e => .inr (.inr (.inr e)))
            have c2' := HA1.out.c2
            simp only [strV] at hV1 fV1 HNX HKX c2'
            clear HA1 HB1
            have hcat : strOfNums (x.take 12) ++ strOfNums (z.drop 12) = strOfNums (x.take 12 ++ z.drop 12) := str_append _ _
            have hx1 : (strOfNums x).extract 0 12 = strOfNums (x.take 12) := str_take _ _
            have hx2 : (strOfNums z).extract 12 24 = strOfNums (z.drop 12) := str_drop _ 12 24 HLEN.out.2 (by omega)
            have hs1 : (strOfNums z).size = 24 := by rw [strOfNums_size, HLEN.out.2]
            have hs2 : (strOfNums x).size = 24 := by rw [strOfNums_size, HLEN.out.1]
            have hs3 : (strOfNums (x.take 12)).size = 12 := by rw [strOfNums_size, List.length_take, HLEN.out.1]; decide
            have hs4 : (strOfNums (z.drop 12)).size = 12 := by rw [strOfNums_size, List.length_drop, HLEN.out.2]
            go_upto_region 12 with (fail)
            have q0 := up_cell (F := fun _ => False) (w := wr.drew) c0 id
            have q1 := up_cell (F := fun _ => False) (w := wr.drew) c1 id
            have q2 := up_cell (F := fun _ => False) (w := wr.drew) rA id
            have q3 := up_cell (F := fun _ => False) (w := wr.drew) rT id
            refine wp_region_stages Grow (kept_refl _) (kept_trans _) [] [0, 1, 2, 3, 4, 5, 6, 7, 8, 9, 10, 11, 12, 13, 14, 15] (by kernel_rfl) (by kernel_rfl) ?_
            simp only [selSt, sel, List.map_cons, List.map_nil, List.getD_cons_succ, List.getD_cons_zero]
            refine st_nil fun K2 hK2 => ?_
            repeat (go_big_quiet_step (fail))
            refine wpQuiet_nil (hK2 _ ?_)
            clear hK2 K2 q0 q1 q2 q3
            go_upto_region 19 with (fail)
            have q0 := up_cell (F := (· = r.A)) (w := wr.drew.drew) c0 HNE.out.1
            refine wp_region_stages (Kept (· = r.A)) (kept_refl _) (kept_trans _) [([0, 1, 2, 3, 4, 5, 6, 7, 8, 9, 10], 11)] [] (by kernel_rfl) (by kernel_rfl) ?_
            simp only [selSt, sel, List.map_cons, List.map_nil, List.getD_cons_succ, List.getD_cons_zero]
            refine st_cons fun K1 hK1 => ?_
            repeat (go_big_quiet_step (fail))
            refine wpQuiet_nil ?_
            clear q0 hx1 hx2 hs1 hs2 hs3 hs4 hcat
            go_wp2
            refine norm_up (hK1 _ _ (kept_set _ _ _ _) (st_nil fun K3 hK3 => wpQuiet_nil (hK3 _ ?_)))
            clear hK1 K1 K3 hK3
            go_wp2
            go_roundg (S.N - (j + 1))
            case measure => have := HG.out; omega
            case rel => exact ⟨j + 1, by omega, by go_num, by rw [HCN.out]; rfl, by first | exact HNX.out.grow (Kept.drew' _) | exact (HNX.out.grow (Kept.drew' _)).grow (Kept.drew' _), by first | exact HKX.out.drew | exact HKX.out.drew.drew⟩
        · have hge : (n : Int) ≤ ((cnt S j : Nat) : Int) / 4 := by omega
          have hf0 : fate bs (cnt S j) = 0 := fate_out (by rw [HL.out]; omega)
          rw [hf0] at HFA
          clear hlt hf0
          generalize cnt S j = tt at *
          have HA1 : Hid (Rows3 wr r S.n S.bad S.N false (fun p => if p = j then x else if p < j then fallen S bs p else S.dur p) t (fun p => if p < j then false else (S.wr p).isSome)) := HR.out.congr (fun p _ => by
            show (if p = j then x else if p < j then fallen S bs p else S.dur p) = (if p < j then fallen S bs p else S.dur p)
            by_cases e : p = j
            · rw [if_pos e, if_neg (by omega), e]; exact HX.out.symm
            · rw [if_neg e]) (fun p _ => rfl) (fun p _ => rfl)
          have HB1 := Lib.hid (HA1.out.setV (k := j) (b := false))
          have hV1 := HA1.out.wait.cell (i := j) hj
          have fV1 := HA1.out.wait.frozen j
          simp only [if_neg (show ¬ j < j by omega)] at hV1
          rw [HO.out] at hV1
          simp only [Option.isSome_some] at hV1
          have HNX : Hid (Rows3 (wr.setCell ⟨r.V, j, none⟩ (.bool false)) r S.n S.bad S.N false (fun p => if p < j + 1 then fallen S bs p else S.dur p) t (fun p => if p < j + 1 then false else (S.wr p).isSome)) := by
            refine HB1.out.congr (fun p _ => ?_) (fun p _ => rfl) (fun p _ => ?_)
            · show (if p < j + 1 then fallen S bs p else S.dur p) = (if p = j then x else if p < j then fallen S bs p else S.dur p)
              by_cases e : p = j
              · rw [if_pos (by omega), if_pos e, e, HFA.out]; rfl
              · by_cases e2 : p < j
                · rw [if_pos (by omega), if_neg e, if_pos e2]
                · rw [if_neg (by omega), if_neg e, if_neg e2]
            · show (if p < j + 1 then false else (S.wr p).isSome) = (if p = j then false else if p < j then false else (S.wr p).isSome)
              by_cases e : p = j
              · rw [if_pos (by omega), if_pos e]
              · by_cases e2 : p < j
                · rw [if_pos (by omega), if_neg e, if_pos e2]
                · rw [if_neg (by omega), if_neg e, if_neg e2]
          have HKX : Hid (Kept (POwn r) w (wr.setCell ⟨r.V, j, none⟩ (.bool false))) := HKK.out.trans ((kept_set _ _ _ _).mono fun _ _ e => .inr (.inr (.inr e)))
          clear HA1 HB1
          go_upto_region 12 with (fail)
          have q0 := up_cell (F := fun _ => False) (w := wr.drew) c0 id
          have q1 := up_cell (F := fun _ => False) (w := wr.drew) c1 id
          have q2 := up_cell (F := fun _ => False) (w := wr.drew) rA id
          have q3 := up_cell (F := fun _ => False) (w := wr.drew) rT id
          refine wp_region_stages Grow (kept_refl _) (kept_trans _) [] [0, 1, 2, 3, 4, 5, 6, 7, 8, 9, 10, 11, 12, 13, 14, 15] (by kernel_rfl) (by kernel_rfl) ?_
          simp only [selSt, sel, List.map_cons, List.map_nil, List.getD_cons_succ, List.getD_cons_zero]
          refine st_nil fun K2 hK2 => ?_
          repeat (go_big_quiet_step (fail))
          refine wpQuiet_nil (hK2 _ ?_)
          clear hK2 K2 q0 q1 q2 q3
          go_wp2
          go_roundg (S.N - (j + 1))
          case measure => have := HG.out; omega
          case rel => exact ⟨j + 1, by omega, by go_num, by rw [HCN.out]; rfl, by first | exact HNX.out.grow (Kept.drew' _) | exact (HNX.out.grow (Kept.drew' _)).grow (Kept.drew' _), by first | exact HKX.out.drew | exact HKX.out.drew.drew⟩
    · have hjN : j = S.N := by omega
      have HF1 := Lib.hid (hr.field (n' := S.n) (bad' := S.bad) (down' := true) (i := 5) (x := .bool true) rfl)
      have c5 := hr.c5
      have f5 := hr.fr 5
      have HFIN : Hid (RefAt (wr.setCell ⟨r.m, 5, none⟩ (.bool true)) r (crashS S bs)) := by
        have hcr : crashS S bs = { S with dur := fallen S bs, wr := fun _ => none, down := true } := by
          unfold crashS
          rw [HDN.out, if_neg (by decide)]
        rw [hcr]
        refine ⟨t, HF1.out.congr (fun p hp => ?_) (fun p _ => rfl) (fun p hp => ?_), fun h => by cases h⟩
        · show fallen S bs p = (if p < j then fallen S bs p else S.dur p)
          rw [if_pos (by omega)]
        · show false = (if p < j then false else (S.wr p).isSome)
          rw [if_pos (by omega)]
      have HKF : Hid (Kept (POwn r) w (wr.setCell ⟨r.m, 5, none⟩ (.bool true))) := hkk.trans ((kept_set _ _ _ _).mono fun _ _ e => .inl e)
      subst hjN
      clear hr hkk hg HF1
      go_wp2
      go_ret
      exact ⟨rfl, HFIN.out, HKF.out⟩
end
end Go.Proofs.Ytfjcbcpfhjaeeaa.RefX
