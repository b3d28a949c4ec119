/- Package vm: functions. -/
import Derived.Test.YtgdkjkfbknbgkaaGreatDoorVl
namespace Go.Proofs.YtgdkjkfbknbgkaaGreatDoor
open Go Go.RowKit

abbrev kLen : Vt := (7, 0, ⟨#[0, 108, 0, 101, 0, 110, 0, 103, 0, 116, 0, 104]⟩)
abbrev kName : Vt := (7, 0, ⟨#[0, 110, 0, 97, 0, 109, 0, 101]⟩)
theorem keyT_str (n : Int) (s : ByteArray) : keyT (7, n, s) = (7, n, s) := by
  unfold keyT
  rw [if_neg (show ¬ ((7 : Int) = 6) by decide)]
theorem putO_new {O : List En} {k v : Vt} {fl : Int} (h : O.all (fun x => decide (x.1 ≠ k)) = true) : (putO (O, []) k v fl).1 = O ++ [(k, v, fl)] := by
  unfold putO
  rw [if_neg]
  rintro ⟨e, he, hk⟩
  have := List.all_eq_true.1 h e he
  simp [hk] at this
theorem lookO_new {O : List En} {k : Vt} (h : O.all (fun x => decide (x.1 ≠ k)) = true) : lookO O k = ((0, 0, ⟨#[]⟩), 0, false) := by
  unfold lookO
  have : O.find? (fun x => decide (x.1 = k)) = none := by
    rw [List.find?_eq_none]
    intro x hx
    have := List.all_eq_true.1 h x hx
    simpa using this
  rw [this]
section
variable {W W' : World} {h A m : Nat} {f : Nat → Int} {os : List OS} {ts ts1 ts2 : List TO}
/-- A new property. -/
theorem MP.define {t : TO} (H : MP W h A m f (ts1 ++ t :: ts2)) (hc : (t.cl == 1) = false) (hn : t.O.length < 40000) (fl : Int) (k v : Vt) (hk6 : keyT k = k) (hk : k.2.2.size ≤ 1000) (hal : t.O.all (fun x => decide (x.1 ≠ k)) = true) :
    Calls Tryz.prog 34 #[.pointer (some ⟨t.b, 0, none⟩), valV k, valV v, .int .i64 fl] W fun e w' => e = .returned (.bool true) ∧ ∃ pv' F', MP w' h A m f (ts1 ++ ⟨t.b, t.cl, t.proto, pv', t.ev, t.fn, t.kd, F', t.O ++ [(k, v, fl)]⟩ :: ts2) ∧ Bk A W w' := by
  have hm : t ∈ ts1 ++ t :: ts2 := by simp
  refine (define_new (H.mem_b hm) hc (H.pr t hm) (Nat.le_of_lt H.mm.alt) hn fl k v hk ⟨_, by rw [hk6]; exact lookO_new hal⟩).mono ?_
  rintro e w' ⟨he, pv', F', hb, hp, ht, hF⟩
  rw [hk6, putO_new hal] at hp
  exact ⟨he, pv', F', H.step pv' t.ev t.fn t.kd F' _ ht hb hp hF⟩
theorem MP.own {t : TO} (H : MP W h A m f (ts1 ++ t :: ts2)) (hc : (t.cl == 1) = false) (hn : t.O.length < 40000) (mv : Value) (nm : ByteArray) (kb : List UInt8) (fl : Int) (v : Vt) (hs : nm.size ≤ 16777216) (hkb : uOf nm = kb) (hk : kb.length ≤ 1000) (hal : t.O.all (fun x => decide (x.1 ≠ ((7, 0, ⟨kb.toArray⟩) : Vt))) = true) :
    Calls Tryz.prog 14 #[mv, .pointer (some ⟨t.b, 0, none⟩), .string nm, valV v, .int .i64 fl] W fun e w' => e = .returned (.tuple #[]) ∧ ∃ pv' F', MP w' h A m f (ts1 ++ ⟨t.b, t.cl, t.proto, pv', t.ev, t.fn, t.kd, F', t.O ++ [((7, 0, ⟨kb.toArray⟩), v, fl)]⟩ :: ts2) ∧ Bk A W w' := by
  refine own_m (fun w' => ∃ pv' F', MP w' h A m f (ts1 ++ ⟨t.b, t.cl, t.proto, pv', t.ev, t.fn, t.kd, F', t.O ++ [((7, 0, ⟨kb.toArray⟩), v, fl)]⟩ :: ts2) ∧ Bk A W w') mv t.b nm v fl hs ⟨fun W1 hb => ?_⟩
  rw [hkb]
  refine ((H.on hb).define hc hn fl (7, 0, ⟨kb.toArray⟩) v (keyT_str _ _) (by show kb.toArray.size ≤ 1000; simpa using hk) hal).mono ?_
  rintro e w' ⟨he, pv', F', h1, h2⟩
  exact ⟨he, pv', F', h1, (Bk.of_below (Nat.le_of_lt H.mm.alt) hb).trans h2⟩
/-- A new object. -/
theorem MP.create (H : MP W h A m f ts) (cl proto : Int) (hl : ts.length < 100000) : Calls Tryz.prog 53 #[.pointer (some ⟨m, 0, none⟩), .int .i64 cl, .int .i64 proto] W fun e w' => e = .returned (.tuple #[.int .i64 ((ts.length : Int) + 1), .pointer (some ⟨W.heap.size, 0, none⟩)]) ∧ MP w' h A m f (ts ++ [TO.plain W.heap.size cl proto (.slice none 0 0)]) ∧ Bk A W w' := by
  refine (H.mm.create cl proto (by rw [List.length_map]; omega)).mono ?_
  rintro e w' ⟨he, h1, h2, h3, h4⟩
  rw [List.length_map] at he
  exact ⟨he, H.new (t := TO.plain W.heap.size cl proto (.slice none 0 0)) h1 h4 h2 (Nat.le_refl _) (fun _ h => h) (.inl ⟨rfl, rfl, rfl⟩), Bk.of_kp h2 h3⟩
set_option maxHeartbeats 1000000 in
set_option maxRecDepth 100000 in
theorem MP.function (H : MP W h A m f ts) (nm : ByteArray) (n : Int) (hs : nm.size ≤ 16777216) (hl : ts.length < 100000) : Calls Tryz.prog 46 #[.pointer (some ⟨m, 0, none⟩), .string nm, .int .i64 n] W fun e w' => ∃ b, e = .returned (.tuple #[.int .i64 ((ts.length : Int) + 1), .pointer (some ⟨b, 0, none⟩)]) ∧ ∃ pv F, MP w' h A m f (ts ++ [⟨b, 2, f 1, pv, .slice none 0 0, .nilIface, 0, F, [(kLen, (3, n, ⟨#[]⟩), 4), (kName, (7, 0, ⟨(uOf nm).toArray⟩), 4)]⟩]) ∧ Bk A W w' := by
  have HPR : Veil (Calls Tryz.prog 54 #[.pointer (some ⟨m, 0, none⟩), .int .i64 1] W fun e w' => e = .returned (.int .i64 (f 1)) ∧ w' = W) := ⟨H.mm.proto_any 1 (by decide)⟩
  have HCR := Veil.mk (H.create 2 (f 1) hl)
  have HS := Veil.mk hs
  have HA : Veil (A ≤ W.heap.size) := ⟨Nat.le_of_lt H.mm.alt⟩
  obtain ⟨b, hb⟩ : ∃ b, W.heap.size = b := ⟨_, rfl⟩
  rw [hb] at HCR
  clear H hs hl hb
  go_enter Tryz.func46, Tryz.ntmps46
  go_upto_region 2 with (first | (go_at_call 54; ((with_reducible refine HPR.out.mono ?_); rintro e w1 ⟨rfl, h1⟩; subst w1)) | (go_at_call 53; ((with_reducible refine HCR.out.mono ?_); rintro e w2 ⟨rfl, hm2, hb2⟩; have H2 := Veil.mk (And.intro hm2 hb2); clear hm2 hb2)))
  have HO1 : Veil (Calls Tryz.prog 14 #[.pointer (some ⟨m, 0, none⟩), (.pointer (some ⟨b, 0, none⟩)), .string ⟨#[108, 101, 110, 103, 116, 104]⟩, valV (3, n, ⟨#[]⟩), .int .i64 4] w2 fun e w' => e = .returned (.tuple #[]) ∧ ∃ pv' F', MP w' h A m f (ts ++ [⟨b, 2, f 1, pv', .slice none 0 0, .nilIface, 0, F', [(kLen, (3, n, ⟨#[]⟩), 4)]⟩]) ∧ Bk A w2 w') := ⟨H2.out.1.own (t := TO.plain b 2 (f 1) (.slice none 0 0)) (ts2 := []) rfl (by show 0 < 40000; omega) _ ⟨#[108, 101, 110, 103, 116, 104]⟩ [0, 108, 0, 101, 0, 110, 0, 103, 0, 116, 0, 104] 4 (3, n, ⟨#[]⟩) (by decide) (by decide +kernel) (by decide) rfl⟩
  clear HCR HPR
  go_upto_region 3 with (go_at_call 14; ((with_reducible refine HO1.out.mono ?_); rintro e w3 ⟨rfl, pv3, F3, hm3, hb3⟩; have H3 := Veil.mk (And.intro hm3 hb3); clear hm3 hb3))
  have HVL : Veil (Calls Tryz.prog 23 #[.string nm] w3 fun e w' => e = .returned (valV (7, 0, ⟨(uOf nm).toArray⟩)) ∧ Below w3.heap.size w3 w') := ⟨val_u nm HS.out w3⟩
  have HO2 : Veil (∀ w', Below w3.heap.size w3 w' → Calls Tryz.prog 14 #[.pointer (some ⟨m, 0, none⟩), (.pointer (some ⟨b, 0, none⟩)), .string ⟨#[110, 97, 109, 101]⟩, valV (7, 0, ⟨(uOf nm).toArray⟩), .int .i64 4] w' fun e w9 => e = .returned (.tuple #[]) ∧ ∃ pv' F', MP w9 h A m f (ts ++ [⟨b, 2, f 1, pv', .slice none 0 0, .nilIface, 0, F', [(kLen, (3, n, ⟨#[]⟩), 4), (kName, (7, 0, ⟨(uOf nm).toArray⟩), 4)]⟩]) ∧ Bk A w' w9) := ⟨fun w' hb => (H3.out.1.on hb).own (t := ⟨b, 2, f 1, pv3, .slice none 0 0, .nilIface, 0, F3, [(kLen, (3, n, ⟨#[]⟩), 4)]⟩) (ts2 := []) rfl (by show 1 < 40000; omega) _ ⟨#[110, 97, 109, 101]⟩ [0, 110, 0, 97, 0, 109, 0, 101] 4 (7, 0, ⟨(uOf nm).toArray⟩) (by decide) (by decide +kernel) (by decide) (by show (decide (kLen ≠ kName) && true) = true; decide +kernel)⟩
  obtain ⟨nv, hnv⟩ : ∃ nv, (⟨(uOf nm).toArray⟩ : ByteArray) = nv := ⟨_, rfl⟩
  rw [hnv] at HVL HO2
  have HNV := Veil.mk hnv
  clear HO1 hnv
  go_wp2_with (first | (go_at_call 23; ((with_reducible refine HVL.out.mono ?_); rintro e w4 ⟨rfl, hb4⟩; have HO3 := Veil.mk (HO2.out w4 hb4); have HB4 := Veil.mk hb4; clear hb4)) | (go_at_call 14; ((with_reducible refine HO3.out.mono ?_); rintro e w5 ⟨rfl, pv5, F5, hm5, hb5⟩; have H5 := Veil.mk (And.intro hm5 hb5); clear hm5 hb5)))
  refine bodyPost_ret (v := .tuple #[.int .i64 ((ts.length : Int) + 1), .pointer (some ⟨b, 0, none⟩)]) (by simp [results, Tryz.results46, go_sem]) rfl ⟨b, rfl, pv5, F5, by rw [HNV.out]; exact H5.out.1, ?_⟩
  have hA3 : A ≤ w3.heap.size := Nat.le_of_lt H3.out.1.mm.alt
  exact ((H2.out.2.trans H3.out.2).trans (Bk.of_below hA3 HB4.out)).trans H5.out.2
end
end Go.Proofs.YtgdkjkfbknbgkaaGreatDoor
