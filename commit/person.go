package commit

import (
	"strconv"
	"strings"

	"graftage/api"
)

const (
	blank          = " "
	mailStart      = " <"
	mailEnd        = "> "
	angles         = "<>"
	leastByte      = 32
	mostTimeDigits = 18
	zoneSize       = 5
	anHour         = 60 // minutes
)

// Who formats a person as in commit and tag bodies.
func Who(p api.Person) string {
	return p.Name + mailStart + p.Mail + mailEnd + strconv.Itoa(p.Time) + blank + zoneText(p.Zone)
}

// zoneText formats a zone: its sign, hours and minutes.
func zoneText(zone int) string {
	sign := "+"
	if zone < 0 {
		sign, zone = "-", -zone
	}
	return sign + twoDigits(zone/anHour) + twoDigits(zone%anHour)
}

// twoDigits formats a number below 100.
func twoDigits(n int) string {
	return strconv.Itoa(n/10) + strconv.Itoa(n%10)
}

// ParseWho parses what Who formats.
func ParseWho(s string) (api.Person, api.Errno) {
	// Where one of the separators is missing, nothing is left for the zone.
	name, rest, _ := strings.Cut(s, mailStart)
	mail, rest, _ := strings.Cut(rest, mailEnd)
	digits, sign, _ := strings.Cut(rest, blank)
	time, timed := parseTime(digits)
	zone, zoned := parseZone(sign)
	if !timed || !zoned || strings.ContainsAny(name+mail, angles) {
		return api.Person{}, api.ErrSyntax
	}
	p := api.Person{Name: name, Mail: mail, Time: time, Zone: zone}
	if !isPerson(p) {
		return api.Person{}, api.ErrInvalid
	}
	return p, api.OK
}

// parseTime returns the time that the digits state and reports whether they are written as they must be.
func parseTime(digits string) (int, bool) {
	if len(digits) > mostTimeDigits {
		return 0, false
	}
	// Signs and superfluous zeros, which Atoi takes, don't come back when the number is written.
	n, err := strconv.Atoi(digits)
	if err != nil || n < 0 || strconv.Itoa(n) != digits {
		return 0, false
	}
	return n, true
}

// parseZone returns the zone, in minutes, and reports whether it is written as it must be.
func parseZone(s string) (int, bool) {
	if len(s) != zoneSize || s[0] != '+' && s[0] != '-' || s == "-0000" {
		return 0, false
	}
	n, err := strconv.Atoi(s) // the sign applies to the hours and to the minutes
	hours, minutes := n/100, n%100
	if err != nil || minutes <= -anHour || minutes >= anHour {
		return 0, false
	}
	return hours*anHour + minutes, true
}

// isPerson reports whether a person is valid.
func isPerson(p api.Person) bool {
	return isName(p.Name) && isName(p.Mail) &&
		0 <= p.Time && p.Time <= api.MaxTime &&
		-api.MaxZone <= p.Zone && p.Zone <= api.MaxZone
}

// isName reports whether a person may have s as a name or as a mail address.
func isName(s string) bool {
	if s == "" || len(s) > api.MaxName || strings.ContainsAny(s, angles) {
		return false
	}
	return least(s) >= leastByte && !strings.HasPrefix(s, blank) && !strings.HasSuffix(s, blank)
}

// least returns the smallest byte of a string that is not empty.
func least(s string) byte {
	b := s[0]
	for at := range len(s) {
		b = min(b, s[at])
	}
	return b
}
