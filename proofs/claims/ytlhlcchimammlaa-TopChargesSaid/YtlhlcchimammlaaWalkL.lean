/- Residues, on both sides. -/
import Derived.Test.YtlhlcchimammlaaWalkK
namespace Go.Proofs.Ytlhlcchimammlaa
open Go.RowKit Go.Shelf

theorem Own.lift {α : Type} {E : Enc α} {w : World} {B B' n c g : Nat} {e : TypeId} {l : List α} (h : Own E w B e (some ⟨g, 0, none⟩) n c l) (hg : B' ≤ g) : Own E w B' e (some ⟨g, 0, none⟩) n c l := by
  refine ⟨h.1, h.2.1, ?_⟩
  rcases h.2.2 with h1 | ⟨g', cap, cur, hv, hb, r⟩
  · exact .inl h1
  · refine .inr ⟨g', cap, cur, hv, ?_, r⟩
    simp at hv
    omega
theorem rss_end {xs L : List Int} {s : Nat} (hl : L.length = s) (hV : VW xs) (h : ∀ i, i < s → L.getD i 0 = rs9 xs i) : L = rssV xs 870 s := by
  refine sameTo_end (by rw [hl, rssV_len]) fun i hi => ?_
  rw [h i (by omega), rs9_eq hV, rssV_at xs 870 (by omega)]
set_option maxRecDepth 100000 in
set_option maxHeartbeats 4000000 in
theorem Residues_any (A : Option Addr) (n c : Nat) (xs : List Int) (w : World) (h : R E1 w A n c xs) :
    Calls Try.prog 42 #[.slice A n c] w (RowPost (errW xs) (rsdV xs) w) := by
  have H := hide h
  by_cases he : errW xs = 0
  · have HE := hide he
    have hV := errW_vw.1 he
    have HV := hide hV
    have HR := hide (rsdV_ok he)
    have hn1 : 1 ≤ n := by rw [← h.length]; exact hV.1
    have hle := h.le
    obtain ⟨h0m, h01, h02⟩ := hV.fst
    have HFA := hide (few_at xs 900)
    have HMU := hide (fun k => mu_few (xs := xs) (n := k))
    obtain ⟨b, off, hr⟩ := h
    obtain rfl := hr.at_ (by omega)
    have hbl := hr.lt (by omega)
    have HRR := hide hr
    have HC0 := hide (fun (wr : World) (hb : Below w.heap.size w wr) => (show wr.cell? ⟨b, off, none⟩ = some (.int .i64 (xs.getD 0 0)) from c1 (k := 0) (hr.under hb fun _ => hbl) (by omega)))
    obtain ⟨s, hs⟩ : ∃ s : Nat, xs.getD 0 0 = (s : Int) := ⟨(xs.getD 0 0).toNat, by omega⟩
    have HSS := hide (show (xs.getD 0 0).toNat = s from by omega)
    rw [hs] at h01 h02
    rw [hs] at HC0
    have HS9 := hide (fun r => rs9_eq hV r)
    have HS0 := hide hs
    clear he hV hr hs h0m
    go_enter Try.func42, Try.ntmps42
    go_wp2_with (first
      | (go_at_call 25; refine (Validate_any _ _ _ xs _ H.out).mono ?_; rintro e w1 ⟨rfl, rfl⟩; rw [HE.out])
      | (go_at_call 61; refine (amountsTo_any _ _ _ xs 900 _ H.out HV.out.wt (by omega)).mono ?_; rintro e w1 ⟨Af, cf, rfl, o1, b1⟩; have hz1 := HC0.out (w1.alloc (.cells (amC (some ⟨b, off, none⟩) n c Af (900 + 1) cf) 52)) (b1.alloc b1.size _); have O1 := hide o1; have B1 := hide b1; clear o1 b1)
      | (at_make; refine wpList_mk _ rfl (.tmp 17) (.tmp 17) rfl w.heap.size s rfl rfl (by omega) (by have := B1.out.size; simp; omega) ?_; intro w2 o2 b2 s2; have HO2 := hide o2; have B2 := hide b2; have S2 := hide s2; clear o2 b2 s2))
    have HW1 := hide (show Below w1.heap.size w1 (w1.alloc (.cells (amC (some ⟨b, off, none⟩) n c Af (900 + 1) cf) 52)) from (Below.refl _ w1).alloc (Nat.le_refl _) _)
    have HBK := hide (Bk.born w1 52 (amC (some ⟨b, off, none⟩) n c Af (900 + 1) cf))
    have HSZ := hide (show (w1.alloc (.cells (amC (some ⟨b, off, none⟩) n c Af (900 + 1) cf) 52)).heap.size = w1.heap.size + 1 from by simp)
    generalize (w1.alloc (.cells (amC (some ⟨b, off, none⟩) n c Af (900 + 1) cf) 52)) = W1 at *
    have HO2' := hide ((show Own E1 w2 w.heap.size 3 (some ⟨w1.heap.size + 1, 0, none⟩) s s (List.replicate s 0) from by have h := HO2.out; rwa [HSZ.out] at h).lift (B' := w1.heap.size + 1) (Nat.le_refl _))
    have HB2 := hide (show Below (w1.heap.size + 1) W1 w2 from B2.out.mono (by rw [HSZ.out]; omega))
    clear HO2 hz1
    go_loopw [21] (fun i wr => ∃ (k : Nat) (L : List Int), k ≤ s ∧ i = .int .i64 k ∧ Hid (Own E1 wr (w1.heap.size + 1) 3 (some ⟨w1.heap.size + 1, 0, none⟩) s s L) ∧ Hid (∀ i, i < k → L.getD i 0 = rs9 xs i) ∧ Hid (Below (w1.heap.size + 1) W1 wr)) (fun i _ => s - (intOf i).toNat)
    case atStart => exact ⟨0, _, Nat.zero_le _, rfl, HO2', hide (fun i hi => absurd hi (Nat.not_lt_zero i)), HB2⟩
    case round =>
      obtain ⟨k, L, hk, rfl, HO, HL, HB⟩ := hrel
      by_cases hlt : k < s
      · have HD1 := hide (HW1.out.trans (HB.out.mono (by omega)))
        have HD0 := hide (B1.out.trans (HD1.out.mono B1.out.size))
        have a0 := HC0.out wr.drew HD0.out.drew
        have bk := (HBK.out.keep HB.out (by omega)).draw
        have b0 := bk.at_ 0
        have b1 := bk.at_ 1
        have bi := bk.in_
        simp at b0 b1
        have hnn : (0 : Int) < (n : Int) := by omega
        have hcs : (k : Int) < (s : Int) := by omega
        have hfr := HO.out.frozen k
        have hcc := own1 HO.out (k := k) hlt
        clear bk
        go_wp2_with fail
        go_region_with (go_at_call 71; refine (first_any (amV (some ⟨b, off, none⟩) n c Af (900 + 1) cf) xs k s _ hlt HSS.out (by omega) (fun j wj hj hbj => (isMadeUp_any _ n c Af (900 + 1) cf (few xs 900) j wj (O1.out.row.below (HD1.out.drew.trans (hbj.mono (by have := HD1.out.size; exact this))) (Nat.le_refl _)) (by omega)).mono (fun e w' h => ⟨by rw [h.1, HFA.out j hj, ← HMU.out j, few_at xs j j (Nat.le_refl _)], h.2⟩))).mono ?_; rintro e w3 ⟨rfl, b3⟩; have f3 := (HO.out.drew.below b3 (Nat.le_refl _)).frozen k; have c3 := own1 (HO.out.drew.below b3 (Nat.le_refl _)) (k := k) hlt; have B3 := hide b3; clear b3)
        all_goals
          go_wp2_with fail
          go_roundw
          case rel => exact ⟨k + 1, L.set k (rs9 xs k), by omega, by go_num, hide ((HO.out.drew.below B3.out (Nat.le_refl _)).stored1 hlt (rs9 xs k)), hide (fun i hi => by
            by_cases e : i = k
            · subst e; exact getD_set_eq (by rw [HO.out.len]; exact hlt)
            · rw [getD_set_ne e]; exact HL.out i (by omega)), hide ((HB.out.drew.trans (B3.out.mono (by have := HB.out.size; have := HSZ.out; show _ ≤ wr.heap.size; omega))).setCell (Nat.le_refl _) _)⟩
          case measure => simp [intOf]; omega
      · obtain rfl : k = s := by omega
        have HD1 := hide (HW1.out.trans (HB.out.mono (by omega)))
        have HE2 := hide (show L = rsdV xs from by rw [HR.out, HSS.out]; exact rss_end HO.out.len HV.out HL.out)
        go_wp2_with fail
        go_ret2
        exact ⟨_, _, _, by rw [HE.out]; rfl, by rw [← HE2.out]; exact HO.out.more (by have := B1.out.size; omega), B1.out.trans (HD1.out.mono B1.out.size)⟩
  · have HR := hide (rsdV_no he)
    have hne : (errW xs != 0) = true := by simpa using he
    clear he h
    go_enter Try.func42, Try.ntmps42
    go_wp2_with (go_at_call 25; refine (Validate_any _ _ _ xs _ H.out).mono ?_; rintro e w1 ⟨rfl, rfl⟩)
    go_ret2
    exact ⟨none, 0, 0, rfl, by rw [HR.out]; exact Own.nil _ _ _ _, Below.refl _ _⟩
end Go.Proofs.Ytlhlcchimammlaa
