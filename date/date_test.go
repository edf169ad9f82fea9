package date_test

import (
	"math"
	"math/bits"
	"regexp"
	"slices"
	"strconv"
	"testing"
	"time"

	"bourne/api"
	"bourne/date"
)

const (
	least = math.MinInt
	most  = math.MaxInt
	last  = 1 << 24
)

// noHours are numbers that are not hours.
func noHours() []int {
	return []int{-1, -23, -24, -25, last + 1, last + 24, 1 << 32, -1 << 32, least, least + 1, most - 1, most}
}

// leapMonths are the months of a leap year, written out once more.
func leapMonths() []int { return []int{31, 29, 31, 30, 31, 30, 31, 31, 30, 31, 30, 31} }

// clock counts the hours one by one, as a calendar on a wall does.
type clock struct{ api.Date }

func (c *clock) tick() {
	c.Hour++
	if c.Hour < 24 {
		return
	}
	c.Hour = 0
	c.Day++
	days := leapMonths()[c.Month-1]
	leap := c.Year%400 == 0 || c.Year%4 == 0 && c.Year%100 != 0
	if c.Month == 2 && !leap {
		days = 28
	}
	if c.Day <= days {
		return
	}
	c.Day = 1
	c.Month++
	if c.Month > 12 {
		c.Month = 1
		c.Year++
	}
}

// hourOf is the hour of a date whose fields are small, by the library; ok is false if there is none.
func hourOf(d api.Date) (hour int, ok bool) {
	t := time.Date(d.Year, time.Month(d.Month), d.Day, d.Hour, 0, 0, 0, time.UTC)
	// The library turns a date that is not valid into another one.
	if t.Year() != d.Year || int(t.Month()) != d.Month || t.Day() != d.Day || t.Hour() != d.Hour {
		return 0, false
	}
	start := time.Date(2000, 1, 1, 0, 0, 0, 0, time.UTC)
	hour = int((t.Unix() - start.Unix()) / 3600)
	if hour < 0 || hour > last {
		return 0, false
	}
	return hour, true
}

func checkHour(t *testing.T, d api.Date, want int, ok bool) {
	t.Helper()
	if got, gotOK := date.Hour(d); got != want || gotOK != ok {
		t.Errorf("Hour(%v): got %d, %t, want %d, %t", d, got, gotOK, want, ok)
	}
}

func checkParse(t *testing.T, s string, want int, ok bool) {
	t.Helper()
	if got, gotOK := date.Parse(s); got != want || gotOK != ok {
		t.Errorf("Parse(%q): got %d, %t, want %d, %t", s, got, gotOK, want, ok)
	}
}

// P8.1, P8.2, P8.3: the examples of the chapter.
func TestExamples(t *testing.T) {
	dates := []struct {
		hour int
		want api.Date
	}{
		{0, api.Date{Year: 2000, Month: 1, Day: 1}},
		{24*59 + 5, api.Date{Year: 2000, Month: 2, Day: 29, Hour: 5}},
		{24 * 366, api.Date{Year: 2001, Month: 1, Day: 1}},
	}
	for _, c := range dates {
		if d, ok := date.Of(c.hour); d != c.want || !ok {
			t.Errorf("Of(%d): got %v, %t", c.hour, d, ok)
		}
		checkHour(t, c.want, c.hour, true)
	}
	checkHour(t, api.Date{Year: 2001, Month: 2, Day: 29}, 0, false)
	checkHour(t, api.Date{Year: 1999, Month: 12, Day: 31, Hour: 23}, 0, false)

	seasons := []struct {
		d           api.Date
		from, until int
		want        bool
	}{
		{api.Date{Year: 2031, Month: 12, Day: 5}, 1101, 331, true},
		{api.Date{Year: 2031, Month: 4, Day: 1}, 1101, 331, false},
		{api.Date{Year: 2031, Month: 2, Day: 28}, 229, 229, false},
	}
	for _, c := range seasons {
		if date.In(c.d, c.from, c.until) != c.want {
			t.Errorf("In(%v, %d, %d): not %t", c.d, c.from, c.until, c.want)
		}
	}

	if s := date.Text(29); s != "2000-01-02 05h" {
		t.Errorf("Text(29): got %q", s)
	}
	checkParse(t, "2000-01-02 05h", 29, true)
	checkParse(t, "2000-1-2 05h", 0, false)
}

// P8.1, P8.4: each hour has the date that a clock which counts the hours shows, and this date has that hour; later hours have later dates, because the clock goes on only.
func TestEveryHour(t *testing.T) {
	c := clock{api.Date{Year: 2000, Month: 1, Day: 1}}
	for h := 0; h <= last; h++ {
		if d, ok := date.Of(h); d != c.Date || !ok {
			t.Fatalf("Of(%d): got %v, %t, want %v", h, d, ok, c.Date)
		}
		if got, ok := date.Hour(c.Date); got != h || !ok {
			t.Fatalf("Hour(%v): got %d, %t, want %d", c.Date, got, ok, h)
		}
		c.tick()
	}
	if want := (api.Date{Year: 3913, Month: 12, Day: 8, Hour: 17}); c.Date != want {
		t.Errorf("after the last hour: %v", c.Date)
	}
	for range 100 * 366 * 24 {
		if got, ok := date.Hour(c.Date); got != 0 || ok {
			t.Fatalf("Hour(%v): got %d, %t", c.Date, got, ok)
		}
		c.tick()
	}
}

// P8.1: numbers that are not hours have neither a date nor a day nor a text.
func TestNoHour(t *testing.T) {
	for _, h := range noHours() {
		if d, ok := date.Of(h); d != (api.Date{}) || ok {
			t.Errorf("Of(%d): got %v, %t", h, d, ok)
		}
		if d := date.Day(h); d != -1 {
			t.Errorf("Day(%d): got %d", h, d)
		}
		if s := date.Text(h); s != "" {
			t.Errorf("Text(%d): got %q", h, s)
		}
	}
}

// P8.1
func TestDay(t *testing.T) {
	h := 0
	for day := 0; h <= last; day++ {
		for range 24 {
			if h <= last && date.Day(h) != day {
				t.Fatalf("Day(%d): got %d, want %d", h, date.Day(h), day)
			}
			h++
		}
	}
}

// P8.1: Hour accepts valid dates only. The fields lie within their ranges, and beyond them.
func TestDates(t *testing.T) {
	years := []int{-2000, -400, -1, 0, 1, 1600, 1996, 1999, 2000, 2001, 2003, 2004, 2096, 2100, 2200, 2300, 2400, 2800, 3600, 3900, 3904, 3912, 3913, 3914, 3915, 3916, 4000, 9999, 10000, 100000}
	for _, y := range years {
		for month := -2; month <= 15; month++ {
			for day := -2; day <= 34; day++ {
				for _, hour := range []int{-25, -24, -1, 0, 1, 12, 16, 17, 22, 23, 24, 25, 48} {
					d := api.Date{Year: y, Month: month, Day: day, Hour: hour}
					want, ok := hourOf(d)
					checkHour(t, d, want, ok)
				}
			}
		}
	}
	checkHour(t, api.Date{Year: 3913, Month: 12, Day: 8, Hour: 16}, last, true)
	checkHour(t, api.Date{Year: 3913, Month: 12, Day: 8, Hour: 17}, 0, false)
}

// P8.1, P1: no field is too great or too small for Hour; and no such number wraps around to a valid date.
func TestExtremeDates(t *testing.T) {
	extremes := []int{least, least + 1, least + 2000, -1 << 62, -1 << 33, -1 << 32, 1<<32 + 1, 1<<32 + 2000, 1 << 61, 1<<62 + 1, 1<<63 - 2000, most - 1, most}
	for i := range 64 {
		extremes = append(extremes, 2000+1<<i, 2000-1<<i)
	}
	good := api.Date{Year: 2000, Month: 1, Day: 1}
	for _, x := range extremes {
		for field := range 4 {
			d := good
			*[]*int{&d.Year, &d.Month, &d.Day, &d.Hour}[field] = x
			want, ok := 0, false
			if x > 0 && x < 5000 {
				want, ok = hourOf(d)
			}
			checkHour(t, d, want, ok)
		}
		checkHour(t, api.Date{Year: x, Month: x, Day: x, Hour: x}, 0, false)
	}
	checkHour(t, api.Date{}, 0, false)
}

// P8.1, P1: years so far away that their hours, counted in ints that wrap around, would come back to small numbers.
func TestFarYears(t *testing.T) {
	const span, hours = 400, 146097 * 24
	high, low := bits.Mul64(1<<63, 2*(span/8)) // 2^64 times span, over 8
	turn, _ := bits.Div64(high, low, hours/8)
	for k := range 4 {
		for near := -3000; near <= 3000; near++ {
			for _, y := range []int{k*int(turn) + near, 2000 - k*int(turn) + near} {
				if y >= 2000 && y <= 3913 {
					continue
				}
				checkHour(t, api.Date{Year: y, Month: 1 + (near+3000)%12, Day: 28, Hour: 7}, 0, false)
			}
		}
	}
}

// P8.1: the year of a century is a leap year only if 400 divides it.
func TestLeapYears(t *testing.T) {
	for y := 2000; y <= 3913; y++ {
		feb29, ok := date.Hour(api.Date{Year: y, Month: 2, Day: 29})
		leap := y%400 == 0 || y%4 == 0 && y%100 != 0
		if ok != leap {
			t.Errorf("%d-02-29: %d, %t", y, feb29, ok)
		}
	}
}

// monthDays are the month-days, in order.
func monthDays() []int {
	var l []int
	for m, days := range leapMonths() {
		for day := range days {
			l = append(l, 100*(m+1)+day+1)
		}
	}
	return l
}

// noMonthDays are numbers that are not month-days.
func noMonthDays() []int {
	l := []int{least, least + 1, most - 1, most, 1<<32 + 101, 1<<63 - 101, -1 << 32, -101, -131, -228, -229, -301, -1231}
	good := monthDays()
	for x := -200; x <= 1500; x++ {
		if !slices.Contains(good, x) {
			l = append(l, x)
		}
	}
	return l
}

func dateOf(monthDay int) api.Date { return api.Date{Month: monthDay / 100, Day: monthDay % 100} }

// P8.2: a season has the month-days that one passes who goes from its first one, and around at the end of the year, until its last one.
func TestSeasons(t *testing.T) {
	l := monthDays()
	for i, from := range l {
		for j, until := range l {
			inside := make([]bool, len(l))
			for k := i; ; k = (k + 1) % len(l) {
				inside[k] = true
				if k == j {
					break
				}
			}
			for k, x := range l {
				if date.In(dateOf(x), from, until) != inside[k] {
					t.Fatalf("In(%d, %d, %d): not %t", x, from, until, inside[k])
				}
			}
		}
	}
}

// P8.2: invalid seasons have no dates, and invalid dates are in no season.
func TestNoSeasons(t *testing.T) {
	for _, bad := range noMonthDays() {
		for _, good := range monthDays() {
			for _, x := range []int{101, 229, 630, 1231, good} {
				if date.In(dateOf(x), bad, good) {
					t.Errorf("In(%d, %d, %d)", x, bad, good)
				}
				if date.In(dateOf(x), good, bad) {
					t.Errorf("In(%d, %d, %d)", x, good, bad)
				}
			}
		}
		if date.In(dateOf(101), bad, bad) {
			t.Errorf("In(101, %d, %d)", bad, bad)
		}
	}
	seasons := [][2]int{{101, 1231}, {701, 630}, {1231, 101}, {229, 229}, {301, 228}, {1101, 331}}
	far := []int{least, least + 1, -1 << 32, 1<<32 + 1, most - 1, most}
	good := monthDays()
	for _, s := range seasons {
		for month := -3; month <= 16; month++ {
			for day := -150; day <= 250; day++ {
				valid := day > 0 && day < 100 && slices.Contains(good, 100*month+day)
				if d := (api.Date{Month: month, Day: day}); !valid && date.In(d, s[0], s[1]) {
					t.Errorf("In(%v, %d, %d)", d, s[0], s[1])
				}
			}
			for _, x := range far {
				if date.In(api.Date{Month: month, Day: x}, s[0], s[1]) || date.In(api.Date{Month: x, Day: month}, s[0], s[1]) {
					t.Errorf("In with %d and %d, %v", month, x, s)
				}
			}
		}
	}
}

// P8.2: the year and the hour of the date do not matter, not even for a day that the year does not have.
func TestSeasonsOfYears(t *testing.T) {
	for _, y := range []int{least, -1, 0, 1900, 2000, 2001, 2100, 3914, most} {
		for _, h := range []int{least, -1, 0, 23, 24, most} {
			for _, x := range monthDays() {
				d := dateOf(x)
				d.Year, d.Hour = y, h
				if !date.In(d, 101, 1231) || date.In(d, 1101, 331) != (x >= 1101 || x <= 331) || date.In(d, 229, 229) != (x == 229) {
					t.Fatalf("a season of %v", d)
				}
			}
		}
	}
}

// textOf writes a date as the chapter says, without the calls of this package.
func textOf(d api.Date) string {
	two := func(x int) string { return strconv.Itoa(x/10) + strconv.Itoa(x%10) }
	return two(d.Year/100) + two(d.Year%100) + "-" + two(d.Month) + "-" + two(d.Day) + " " + two(d.Hour) + "h"
}

// P8.3, P8.4: each text is that of the date which a clock shows, it is read back, and it is greater than those before it. The step of 7 hours comes to each hour of a day.
func TestTexts(t *testing.T) {
	c := clock{api.Date{Year: 2000, Month: 1, Day: 1}}
	before := ""
	for h := 0; h <= last; h++ {
		if h%7 == 0 || h > last-1000 {
			s := date.Text(h)
			if s != textOf(c.Date) {
				t.Fatalf("Text(%d): got %q, want %q", h, s, textOf(c.Date))
			}
			if s <= before {
				t.Fatalf("Text(%d): %q is not greater than %q", h, s, before)
			}
			if got, ok := date.Parse(s); got != h || !ok {
				t.Fatalf("Parse(%q): got %d, %t, want %d", s, got, ok, h)
			}
			before = s
		}
		c.tick()
	}
}

var form = regexp.MustCompile(`\A([0-9]{4})-([0-9]{2})-([0-9]{2}) ([0-9]{2})h\z`)

// parsed is what Parse has to return, by the library's expressions and times.
func parsed(s string) (int, bool) {
	m := form.FindStringSubmatch(s)
	if m == nil {
		return 0, false
	}
	var x [4]int
	for i := range x {
		x[i], _ = strconv.Atoi(m[i+1])
	}
	return hourOf(api.Date{Year: x[0], Month: x[1], Day: x[2], Hour: x[3]})
}

// P8.3: strings that differ from a text in one or two bytes, or by a byte more or less.
func TestParseNearTexts(t *testing.T) {
	bytes := "0123456789-+ hH_.:\x00\xff٣"
	for _, h := range []int{0, 29, 24*59 + 5, 24*366 + 23, 11 * 24 * 365, last - 1, last} {
		s := date.Text(h)
		for i := range len(s) + 1 {
			for b := range 256 {
				more := s[:i] + string([]byte{byte(b)}) + s[i:]
				checkParse(t, more, 0, false)
				if i < len(s) {
					other := s[:i] + string([]byte{byte(b)}) + s[i+1:]
					want, ok := parsed(other)
					checkParse(t, other, want, ok)
				}
			}
			if i < len(s) {
				checkParse(t, s[:i]+s[i+1:], 0, false)
				checkParse(t, s[:i], 0, false)
			}
			for j := range i {
				for k := range len(bytes) * len(bytes) {
					b := []byte(s + "!")
					b[i], b[j] = bytes[k%len(bytes)], bytes[k/len(bytes)]
					other := string(b[:max(len(s), i+1)])
					want, ok := parsed(other)
					checkParse(t, other, want, ok)
				}
			}
		}
	}
}

// P8.3: all numbers in the form of a text, with those that are too great or too small.
func TestParseNumbers(t *testing.T) {
	two := func(x int) string { return strconv.Itoa(x/10) + strconv.Itoa(x%10) }
	for _, y := range []int{0, 1, 1900, 1999, 2000, 2001, 2004, 2100, 2400, 3900, 3912, 3913, 3914, 3916, 4000, 9999} {
		for month := range 100 {
			for day := range 100 {
				for _, h := range []int{0, 9, 16, 17, 23, 24, 99} {
					s := two(y/100) + two(y%100) + "-" + two(month) + "-" + two(day) + " " + two(h) + "h"
					want, ok := parsed(s)
					checkParse(t, s, want, ok)
				}
			}
		}
	}
}

// P8.3: strings that one could take for a text of an hour.
func TestNoText(t *testing.T) {
	for _, s := range []string{
		"", "h", "2000", "2000-01-02", "2000-01-02 05", "2000-01-02 5h", "2000-01-02T05h", "2000-01-02 05H", "2000-01-02  5h",
		" 2000-01-02 05h", "2000-01-02 05h ", "2000-01-02 05h\n", "02000-01-02 05h", "20000-1-02 05h", "+200-01-02 05h",
		"2000-+1-02 05h", "2000-01-+2 05h", "2000-01-02 +5h", "2000--1-02 05h", "2000-01-02 -0h", "2000-01-02 -1h", "-000-01-02 05h",
		"2_00-01-02 05h", "2000/01/02 05h", "2000-01-02 05:", "2000-01-02 24h", "2000-02-30 00h", "2001-02-29 00h", "2000-13-01 00h",
		"2000-00-01 00h", "2000-01-00 00h", "1999-12-31 23h", "3913-12-08 17h", "3914-01-01 00h", "9999-12-31 23h", "0x00-01-02 05h",
		"xxxx-01-01 00h", "2000-xx-01 00h", "2000-01-xx 00h", "2000-01-01 xxh", "2000 01-01-00h", "２000-01-01 00h",
	} {
		checkParse(t, s, 0, false)
	}
	checkParse(t, "3913-12-08 16h", last, true)
	checkParse(t, "2000-01-01 00h", 0, true)
}

// P8.5: 400 years are 146097 days.
func TestFourCenturies(t *testing.T) {
	const span = 24 * 146097
	for h := 0; h+span <= last; h += 5 {
		a, _ := date.Of(h)
		b, ok := date.Of(h + span)
		a.Year += 400
		if a != b || !ok {
			t.Fatalf("Of(%d): got %v, want %v", h+span, b, a)
		}
	}
}

// P8.5: each date is in one of two seasons that follow each other, and not in the other one.
func TestTwoSeasons(t *testing.T) {
	l := monthDays()
	for i := range l {
		for j := range l {
			afterJ, beforeI := l[(j+1)%len(l)], l[(i+len(l)-1)%len(l)]
			if (j+1)%len(l) == i {
				continue // the first season is the whole year
			}
			for h := i % 24; h < 4*366*24; h += 24 * 11 {
				d, _ := date.Of(h)
				if date.In(d, l[i], l[j]) == date.In(d, afterJ, beforeI) {
					t.Fatalf("%v: %d to %d, and %d to %d", d, l[i], l[j], afterJ, beforeI)
				}
			}
		}
	}
}

// P4: a call returns what it returned before, whatever came in between.
func TestRepeats(t *testing.T) {
	for _, h := range []int{0, 29, 1 << 20, last, -1, last + 1} {
		d, ok := date.Of(h)
		s, day := date.Text(h), date.Day(h)
		date.Of(h + 1)
		date.Hour(api.Date{Year: 2024, Month: 2, Day: 29})
		date.Parse("2001-02-29 00h")
		d2, ok2 := date.Of(h)
		if d != d2 || ok != ok2 || s != date.Text(h) || day != date.Day(h) {
			t.Errorf("hour %d", h)
		}
	}
}
